package tests

import (
	"slices"
	"testing"

	"loop.example/g00339/impl"
)

// TestPlacesOfRowsDrawn draws rows that are seldom trees, and code that is seldom good.
func TestPlacesOfRowsDrawn(t *testing.T) {
	r := draw(1307)
	numbers := []int{-1 << 63, -1001, -1000, -1, 0, 0, 0, 0, 0, 1, 2, 1000, 1001, 1<<63 - 1}
	good, ready := 0, 0
	for range 20000 {
		cells := make([]impl.TreeCell, r.below(6))
		for k := range cells {
			cells[k] = impl.TreeCell{Op: r.below(5), Num: numbers[r.below(len(numbers))]}
		}
		if plainGoodTree(cells) {
			good++
			checkCells(t, cells)
		} else {
			checkCellsRefused(t, cells)
		}
		steps := make([]impl.Code, r.below(5))
		for k := range steps {
			steps[k] = impl.Code{Op: r.below(5), To: r.below(4) - 1, A: r.below(3) - 1, B: r.below(3) - 1, Num: numbers[r.below(len(numbers))]}
			if r.below(2) == 0 {
				steps[k] = impl.Code{Op: impl.LoadOp, To: r.below(2), Num: 3}
			}
		}
		checkPlacedCode(t, steps)
		if plainIsCode(steps) {
			ready++
		}
	}
	if good < 300 || ready < 1000 {
		t.Errorf("too few good ones: %d trees, %d codes", good, ready)
	}
}

// TestPlacesBehindTheLength: what lies behind a list's length is neither read, nor written, nor handed out.
func TestPlacesBehindTheLength(t *testing.T) {
	r := draw(1308)
	for range 500 {
		junk := []impl.TreeCell{{Op: 9, Num: 5000}, {Op: impl.LoadOp, Num: 1}}
		cells := withMore(drawCells(&r), junk...)
		checkCells(t, cells)
		rights := withMore(drawRights(&r, len(cells)), true, false)
		checkOrder(t, cells, rights)
		junkSteps := []impl.Code{{Op: 9, To: 77, A: -1, B: 50, Num: 3}, {Op: impl.LoadOp, To: 39}}
		steps := withMore(drawSteps(&r), junkSteps...)
		checkPlacedCode(t, steps)
		if !slices.Equal(behind(cells, 2), junk) || !slices.Equal(behind(rights, 2), []bool{true, false}) || !slices.Equal(behind(steps, 2), junkSteps) {
			t.Fatal("written behind a list's length")
		}
	}
}

// TestPlacesCutOff: what would be good with what lies behind it, is not; what would not, is.
func TestPlacesCutOff(t *testing.T) {
	cells := cellsOf("- 9 * + 1 2 4 5")
	for count := range len(cells) {
		if count == 7 {
			checkCells(t, cells[:count])
		} else {
			checkCellsRefused(t, cells[:count])
		}
	}
	checkCellsRefused(t, cells)
	checkCodeBy(t, cells[:7], make([]bool, 7)[:6], nil, 0, false)
	checkCodeBy(t, cells[:7], make([]bool, 7)[:0], nil, 0, false)
	checkOrder(t, cells[:7], []bool{true, false, true, true, false, false, false, true}[:7])
	checkPlacedCodeRefused(t, stepsOf("0=1 1=2")[:0])
	checkRunCode(t, stepsOf("0=1 39=2")[:1], 1, 1, true)
	checkMostHeld(t, stepsOf("0=1 1=2 0=0+1")[:2], 1, true)
	checkRunCode(t, slices.Repeat(stepsOf("0=1"), 61)[:60], 1, 1, true)
}

// TestPlacesAnswersOfTheirOwn writes into each answer as far as its memory goes: no argument may change, no other answer, and what was told is told again.
func TestPlacesAnswersOfTheirOwn(t *testing.T) {
	r := draw(1309)
	scribble := func(steps []impl.Code) {
		steps = steps[:cap(steps)]
		for k := range steps {
			steps[k] = impl.Code{Op: -7, To: -7, A: -7, B: -7, Num: -7}
		}
	}
	for range 500 {
		cells := drawCells(&r)
		rights := drawRights(&r, len(cells))
		kept, rightsKept := slices.Clone(cells), slices.Clone(rights)
		for range 2 {
			checkCells(t, cells)
			checkOrder(t, cells, rights)
			one, _, _ := impl.CodeBy(cells, rights)
			two, _, _ := impl.CodeBy(cells, rights)
			best, _, _ := impl.CodeFor(cells)
			twoKept, bestKept := slices.Clone(two), slices.Clone(best)
			scribble(one)
			if !slices.Equal(two, twoKept) || !slices.Equal(best, bestKept) {
				t.Fatal("two answers share memory")
			}
			scribble(two)
			if !slices.Equal(best, bestKept) {
				t.Fatal("two answers share memory")
			}
			scribble(best)
			checkCellsKept(t, cells, kept)
			if !slices.Equal(rights, rightsKept) {
				t.Fatal("an answer shares memory with an argument")
			}
		}
	}
}
