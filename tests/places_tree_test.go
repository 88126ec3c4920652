package tests

import (
	"slices"
	"strings"
	"testing"

	"loop.example/g00339/impl"
)

func TestPlacesByHand(t *testing.T) {
	for _, one := range []struct {
		tree string
		want int
	}{
		{"0", 1}, {"-1000", 1},
		// Both need as many: one more.
		{"+ 1 2", 2}, {"* + 1 2 + 3 4", 3}, {"- * + 1 2 + 3 4 * + 5 6 + 7 8", 4}, {"+ + 1 + 2 3 + + 4 5 6", 3},
		// The first one needs more, the second one does: the greater one.
		{"+ + 1 2 3", 2}, {"+ 1 + 2 3", 2}, {"- * + 1 2 + 3 4 5", 3}, {"- 5 * + 1 2 + 3 4", 3}, {"- * + 1 2 + 3 4 + 5 6", 3}, {"- + 5 6 * + 1 2 + 3 4", 3},
		{"- 9 * + 1 2 4", 2}, {"+ - * 1 2 3 4", 2}, {"+ 1 - 2 * 3 4", 2}, {"+ - 1 * 2 3 4", 2},
		{"+ * + 1 2 3 - 4 5", 3}, {"+ * + 1 2 3 - 4 + 5 6", 3}, {"+ 7 + * + 1 2 3 - 4 5", 3},
	} {
		checkPlacesFor(t, cellsOf(one.tree), one.want, true)
	}
}

func TestPlacesOfChainsAndFullTrees(t *testing.T) {
	for numbers := 2; numbers <= 20; numbers++ {
		checkPlacesFor(t, opChain(numbers, true), 2, true)
		checkPlacesFor(t, opChain(numbers, false), 2, true)
	}
	for deep := range 5 {
		checkPlacesFor(t, opFull(deep), deep+1, true)
	}
	// A full tree at the end of a chain, of all cells that there may be.
	for _, left := range []bool{false, true} {
		cells := opFull(4)
		for range 4 {
			if left {
				cells = slices.Concat(cellsOf("*"), cells, cellsOf("2"))
			} else {
				cells = slices.Concat(cellsOf("* 2"), cells)
			}
		}
		if len(cells) != 39 {
			t.Fatalf("%d cells", len(cells))
		}
		checkPlacesFor(t, cells, 5, true)
		checkCells(t, cells)
	}
}

func TestValuesByHand(t *testing.T) {
	for _, one := range []struct {
		tree string
		want int
	}{
		{"0", 0}, {"7", 7}, {"1000", 1000}, {"-1", 1000002}, {"-1000", 999003},
		{"+ 1 2", 3}, {"- 1 2", 1000002}, {"- 2 1", 1}, {"* 3 4", 12}, {"- 9 * + 1 2 4", 1000000}, {"- - 1 2 3", 999999}, {"- 1 - 2 3", 2},
		{"+ -1 1", 0}, {"+ -1 -1", 1000001}, {"- -1 -1", 0}, {"- 0 -1", 1}, {"- -1000 1000", 998003}, {"+ 1000 1000", 2000}, {"+ -1000 -1000", 998003},
		{"* -1 -1", 1}, {"* -1 1", 1000002}, {"* -1 1000", 999003}, {"* -1000 -1000", 1000000}, {"* 1000 1000", 1000000}, {"* -1000 1000", 3}, {"* 0 -1", 0}, {"* 0 -1000", 0},
		// Just below the modulus, at it, and above it.
		{"+ * 1000 1000 2", 1000002}, {"+ * 1000 1000 3", 0}, {"+ * 1000 1000 4", 1}, {"* * 1000 1000 1000", 997003}, {"* * 1000 1000 * 1000 1000", 9},
		{"* + * 1000 1000 2 + * 1000 1000 2", 1}, {"* -1 + * 1000 1000 2", 1}, {"- 0 + * 1000 1000 2", 1}, {"- 5 + * 1000 1000 2", 6}, {"+ -1 + * 1000 1000 2", 1000001},
	} {
		checkTreeValue(t, cellsOf(one.tree), one.want, true)
	}
}

// TestValuesOfManyParts: what would go beyond 64 bits is taken by the modulus step by step.
func TestValuesOfManyParts(t *testing.T) {
	for numbers := 1; numbers <= 20; numbers++ {
		for _, n := range []string{" 1000", " -1000", " 999", " -999", " -1", " 2", " 0"} {
			for _, op := range []string{"* ", "+ ", "- "} {
				cells := cellsOf(strings.Repeat(op, numbers-1) + strings.Repeat(n, numbers))
				checkTreeValue(t, cells, plainModulo(opTreeOf(cells).value()), true)
				cells = cellsOf(strings.Repeat(op+n+" ", numbers-1) + n)
				checkTreeValue(t, cells, plainModulo(opTreeOf(cells).value()), true)
			}
		}
	}
	// 1000 and 1000 come to -3, so that the product of 20 of them is -3 to the tenth.
	checkTreeValue(t, cellsOf(strings.Repeat("* ", 19)+strings.Repeat("1000 ", 20)), 59049, true)
	checkTreeValue(t, cellsOf(strings.Repeat("* ", 19)+strings.Repeat("-1 ", 19)+"1"), 1000002, true)
	checkTreeValue(t, cellsOf(strings.Repeat("- ", 19)+"0"+strings.Repeat(" 1000", 19)), 981003, true)
}

func TestAllSmallTrees(t *testing.T) {
	ops := []int{impl.AddOp, impl.SubOp, impl.MulOp}
	count := 0
	for numbers := 1; numbers <= 4; numbers++ {
		nums := []int{-1000, -1, 0, 3, 1000}
		if numbers == 4 {
			nums = []int{-2, 1000}
		}
		allOpTrees(numbers, ops, nums, func(cells []impl.TreeCell) {
			checkCells(t, cells)
			count++
		})
	}
	if count != 5+3*25+2*9*125+5*27*16 {
		t.Errorf("%d trees", count)
	}
	for numbers := 5; numbers <= 9; numbers++ {
		allOpShapes(numbers, func(cells []impl.TreeCell) { checkCells(t, cells) })
	}
}

func TestTreesDrawn(t *testing.T) {
	r := draw(1301)
	var needs [8]int
	below, great := 0, 0
	for range 6000 {
		cells := drawCells(&r)
		checkCells(t, cells)
		needs[opTreeOf(cells).fewest()]++
		switch value := opTreeOf(cells).value(); {
		case value.Sign() < 0:
			below++
		case value.BitLen() > 64:
			great++
		}
	}
	for n := 1; n <= 4; n++ {
		if needs[n] < 100 {
			t.Errorf("too few trees that need %d places: %d", n, needs[n])
		}
	}
	if needs[5] < 5 || below < 1000 || great < 20 {
		t.Errorf("too few trees that need 5 places: %d, that come to what is below 0: %d, that go beyond 64 bits: %d", needs[5], below, great)
	}
}
