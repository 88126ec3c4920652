package tests

import (
	"slices"
	"testing"

	"loop.example/g00339/impl"
)

func TestCodeForByHand(t *testing.T) {
	for _, one := range []struct {
		tree, code string
		places     int
	}{
		{"0", "0=0", 1}, {"-1000", "0=-1000", 1}, {"1000", "0=1000", 1},
		// Both need as many: the first one first.
		{"+ 1 2", "0=1 1=2 0=0+1", 2}, {"- 1 2", "0=1 1=2 0=0-1", 2}, {"* 1 2", "0=1 1=2 0=0*1", 2},
		{"* + 1 2 - 3 4", "0=1 1=2 0=0+1 1=3 2=4 1=1-2 0=0*1", 3},
		{"- + + 1 2 3 + 4 + 5 6", "0=1 1=2 0=0+1 1=3 0=0+1 1=5 2=6 1=1+2 2=4 1=2+1 0=0-1", 3},
		// The first one needs more.
		{"- * 1 2 3", "0=1 1=2 0=0*1 1=3 0=0-1", 2},
		{"- * + 1 2 + 3 4 + 5 6", "0=1 1=2 0=0+1 1=3 2=4 1=1+2 0=0*1 1=5 2=6 1=1+2 0=0-1", 3},
		// The second one needs more: it is first, and stays the second one.
		{"- 3 * 1 2", "0=1 1=2 0=0*1 1=3 0=1-0", 2}, {"- 9 * + 1 2 4", "0=1 1=2 0=0+1 1=4 0=0*1 1=9 0=1-0", 2},
		{"- + 5 6 * + 1 2 - 3 4", "0=1 1=2 0=0+1 1=3 2=4 1=1-2 0=0*1 1=5 2=6 1=1+2 0=1-0", 3},
		{"+ 1 - 2 * 3 4", "0=3 1=4 0=0*1 1=2 0=1-0 1=1 0=1+0", 2},
		{"* - 1 - 2 3 + 4 5", "0=2 1=3 0=0-1 1=1 0=1-0 1=4 2=5 1=1+2 0=0*1", 3},
	} {
		checkCodeFor(t, cellsOf(one.tree), stepsOf(one.code), one.places, true)
	}
}

func TestCodeByByHand(t *testing.T) {
	for _, one := range []struct {
		tree, rights, code string
		places             int
	}{
		{"7", ".", "0=7", 1}, {"7", "r", "0=7", 1},
		{"- 1 2", "...", "0=1 1=2 0=0-1", 2}, {"- 1 2", "r..", "0=2 1=1 0=1-0", 2}, {"+ 1 2", "r..", "0=2 1=1 0=1+0", 2},
		{"- 1 2", ".rr", "0=1 1=2 0=0-1", 2}, {"- 1 2", "rrr", "0=2 1=1 0=1-0", 2}, {"- 1 2", "r.r", "0=2 1=1 0=1-0", 2}, {"- 1 2", "rr.", "0=2 1=1 0=1-0", 2},
		{"- 3 * 1 2", ".....", "0=3 1=1 2=2 1=1*2 0=0-1", 3}, {"- 3 * 1 2", "r....", "0=1 1=2 0=0*1 1=3 0=1-0", 2}, {"- 3 * 1 2", "..r..", "0=3 1=2 2=1 1=2*1 0=0-1", 3}, {"- 3 * 1 2", "r.r..", "0=2 1=1 0=1*0 1=3 0=1-0", 2},
		{"- * 1 2 3", ".....", "0=1 1=2 0=0*1 1=3 0=0-1", 2}, {"- * 1 2 3", "r....", "0=3 1=1 2=2 1=1*2 0=1-0", 3}, {"- * 1 2 3", ".r...", "0=2 1=1 0=1*0 1=3 0=0-1", 2}, {"- * 1 2 3", "rr..r", "0=3 1=2 2=1 1=2*1 0=1-0", 3},
		{"- 9 * + 1 2 4", ".......", "0=9 1=1 2=2 1=1+2 2=4 1=1*2 0=0-1", 3}, {"- 9 * + 1 2 4", "..r....", "0=9 1=4 2=1 3=2 2=2+3 1=2*1 0=0-1", 4}, {"- 9 * + 1 2 4", "r......", "0=1 1=2 0=0+1 1=4 0=0*1 1=9 0=1-0", 2},
		{"* + 1 2 - 3 4", "r......", "0=3 1=4 0=0-1 1=1 2=2 1=1+2 0=1*0", 3}, {"* + 1 2 - 3 4", ".r.....", "0=2 1=1 0=1+0 1=3 2=4 1=1-2 0=0*1", 3}, {"* + 1 2 - 3 4", "....r..", "0=1 1=2 0=0+1 1=4 2=3 1=2-1 0=0*1", 3},
	} {
		checkCodeBy(t, cellsOf(one.tree), rightsOf(one.rights), stepsOf(one.code), one.places, true)
	}
}

// TestCodeByOfChains: in the worst order each number of a chain stays in a place of its own.
func TestCodeByOfChains(t *testing.T) {
	for numbers := 1; numbers <= 20; numbers++ {
		for _, left := range []bool{false, true} {
			cells := opChain(numbers, left)
			worst := slices.Repeat([]bool{left}, len(cells))
			checkOrder(t, cells, worst)
			if _, n, ok := impl.CodeBy(cells, worst); n != numbers || !ok {
				t.Errorf("%v: %d places, %v", cells, n, ok)
			}
			best := slices.Repeat([]bool{!left}, len(cells))
			checkOrder(t, cells, best)
			if _, n, ok := impl.CodeBy(cells, best); n != min(numbers, 2) || !ok {
				t.Errorf("%v: %d places, %v", cells, n, ok)
			}
		}
	}
}

// TestRightsOfOtherCounts: there is a truth for each cell, no fewer and no more.
func TestRightsOfOtherCounts(t *testing.T) {
	for _, text := range []string{"0", "+ 1 2", "- 9 * + 1 2 4"} {
		cells := cellsOf(text)
		for count := range 60 {
			for _, right := range []bool{false, true} {
				rights := slices.Repeat([]bool{right}, count)
				if count == len(cells) {
					checkOrder(t, cells, rights)
				} else {
					checkCodeBy(t, cells, rights, nil, 0, false)
				}
			}
		}
		checkCodeBy(t, cells, nil, nil, 0, false)
		checkCodeBy(t, cells, make([]bool, 100000), nil, 0, false)
	}
	checkCodeBy(t, nil, nil, nil, 0, false)
	checkCodeBy(t, []impl.TreeCell{}, []bool{}, nil, 0, false)
}

// TestRightsAtNumbers: a truth beside a number does not matter.
func TestRightsAtNumbers(t *testing.T) {
	r := draw(1302)
	for range 1000 {
		cells := drawCells(&r)
		rights := drawRights(&r, len(cells))
		want, places, ok := impl.CodeBy(cells, rights)
		if !ok {
			t.Fatalf("refused: %v %v", cells, rights)
		}
		for at, cell := range cells {
			if cell.Op == impl.LoadOp {
				rights[at] = !rights[at]
				checkCodeBy(t, cells, rights, want, places, true)
			}
		}
	}
}

func TestAllOrdersOfSmallTrees(t *testing.T) {
	for numbers := 1; numbers <= 5; numbers++ {
		allOpShapes(numbers, func(cells []impl.TreeCell) {
			for bits := range 1 << len(cells) {
				checkOrder(t, cells, rightsFrom(bits, len(cells)))
			}
		})
	}
}

// rightsFrom makes truths of the bits of a number.
func rightsFrom(bits, cells int) []bool {
	out := make([]bool, cells)
	for k := range out {
		out[k] = bits>>k&1 == 1
	}
	return out
}

func TestOrdersDrawn(t *testing.T) {
	r := draw(1303)
	most := 0
	for range 5000 {
		cells := drawCells(&r)
		rights := drawRights(&r, len(cells))
		checkOrder(t, cells, rights)
		_, n, _ := impl.CodeBy(cells, rights)
		most = max(most, n)
	}
	if most < 9 {
		t.Errorf("no order of many places: %d at most", most)
	}
}
