package tests

import (
	"slices"
	"testing"

	"loop.example/g00339/impl"
)

func TestFixedByHand(t *testing.T) {
	for _, one := range []struct {
		graph, uses, sets, in string
		want                  bool
	}{
		{".", ".", ".", ".", true}, {".", ".", ".", "0", false}, {".", "0", ".", "0", true}, {".", "0", ".", ".", false}, {".", "0", ".", "0,1", false}, {".", "0", ".", "1", false},
		{".", ".", "0", ".", true}, {".", ".", "0", "0", false}, {".", "0", "0", "0", true}, {".", "0", "0", ".", false}, {".", eightNames, ".", eightNames, true},
		// A loop keeps up by itself what nobody uses; not what a block of it sets, nor what one of it lacks.
		{"0", ".", ".", ".", true}, {"0", ".", ".", "5", true}, {"0", ".", ".", eightNames, true}, {"0", ".", "5", "5", false}, {"0", ".", "5", "4,6", true}, {"0", "5", "5", "5", true}, {"0", "5", "5", ".", false},
		{"1 0", ". .", ". .", "3 3", true}, {"1 0", ". .", ". .", "3 .", false}, {"1 0", ". .", ". .", ". 3", false}, {"1 0", ". .", ". 3", "3 3", false}, {"1 0", ". .", ". .", "3 4", false},
		{"1 1", ". .", ". .", ". .", true}, {"1 1", ". .", ". .", "3 3", true}, {"1 1", ". .", ". .", ". 3", false}, {"1 1", ". .", "3 .", ". 3", true}, {"1 1", ". .", ". .", "3 .", false},
		{"1 2,3 1 .", ". 0 . .", "0 . 1 .", ". 0 0 .", true}, {"1 2,3 1 .", ". 0 . .", "0 . 1 .", "7 0,7 0,7 .", true}, {"1 2,3 1 .", ". 0 . .", "0 . 1 .", "1 0,1 0,1 .", false},
		{"1 2,3 1 .", ". 0 . .", "0 . 1 .", "7 0,7 0,7 7", false}, {"1 2,3 1 .", ". 0 . .", "0 . 1 .", "0 0 0 .", false}, {"1 2,3 1 .", ". 0 . .", "0 . 1 .", ". 0 . .", false}, {"1 2,3 1 .", ". 0 . .", "0 . 1 .", ". . 0 .", false},
		// A loop that is not reached does, too.
		{". 1", ". .", ". .", ". 2", true}, {". 2 1", ". . .", ". . .", ". 6 6", true}, {". 2 1", ". . .", ". . .", "6 6 6", false},
		// What is straight on has one answer alone.
		{"1 2 .", ". . 0", ". 1 .", "0 0 0", true}, {"1 2 .", ". . 0", ". 1 .", ". 0 0", false}, {"1 2 .", ". . 0", ". 1 .", "0 . 0", false}, {"1 2 .", ". . 0", ". 1 .", "0 0 .", false}, {"1 2 .", ". . 0", ". 1 .", "0,1 0 0", false}, {"1 2 .", ". . 0", ". 1 .", "0 0,1 0", false}, {"1 2 .", ". . 0", ". 1 .", "0,2 0,2 0,2", false},
	} {
		checkFixed(t, flowOf(one.graph, one.uses, one.sets), listsOf(one.in), one.want, true)
	}
}

// TestFixedOfWrongLists: what is no such lists gets the zero answer.
func TestFixedOfWrongLists(t *testing.T) {
	f := flowOf("1 1,2 .", ". 0 1,2", "0 1 .")
	checkFixed(t, f, listsOf("2 0,2 1,2"), true, true)
	// One list too few, or too many; none at all.
	for _, in := range [][][]int{nil, {}, listsOf("2"), listsOf("2 0,2"), listsOf("0,2 1,2"), listsOf("2 0,2 1,2 ."), listsOf(". 2 0,2 1,2"), listsOf("2 0,2 1,2 1,2"), make([][]int, 12), make([][]int, 13), make([][]int, 100000)} {
		checkFixed(t, f, in, false, false)
	}
	for _, l := range badNames() {
		for b := range 3 {
			in := listsOf("2 0,2 1,2")
			in[b] = l
			checkFixed(t, f, in, false, false)
		}
	}
	// Names that are told in another order, or twice.
	for _, text := range []string{"2 2,0 1,2", "2 0,2 2,1", "2,2 0,2 1,2", "2 0,0,2 1,2", "2 0,2 1,2,2", "-1,2 0,2 1,2", "2 0,2,8 1,2"} {
		checkFixed(t, f, listsOf(text), false, false)
	}
}

// TestFixedByOneName puts one name into what LiveIn tells, or takes one away, at each block.
func TestFixedByOneName(t *testing.T) {
	r := draw(1203)
	kept, broken := 0, 0
	for range 1500 {
		f := drawBlocks(&r, drawGraph(&r, impl.MaxBlocks))
		in, ok := impl.LiveIn(f)
		if !ok {
			t.Fatalf("LiveIn(%v) is refused", f)
		}
		for b := range in {
			name := r.below(impl.MaxNames)
			other := cloneLists(in)
			if slices.Contains(in[b], name) {
				other[b] = slices.DeleteFunc(other[b], func(n int) bool { return n == name })
			} else {
				other[b] = merged(other[b], []int{name})
			}
			want := plainFixed(f, other)
			checkFixed(t, f, other, want, true)
			if want && len(other[b]) < len(in[b]) {
				t.Errorf("%v: %v is fixed, and less than %v", f, other, in)
			}
			if want {
				kept++
			} else {
				broken++
			}
		}
	}
	if kept < 20 || broken < 5000 {
		t.Errorf("too few that stay fixed, or that do not: %d, %d", kept, broken)
	}
}

func TestFixedOfDrawnLists(t *testing.T) {
	r := draw(1204)
	for range 4000 {
		f := drawBlocks(&r, drawGraph(&r, 3))
		in := make([][]int, len(f.Blocks))
		for b := range in {
			in[b] = drawSome(&r, numbersTo(impl.MaxNames))
		}
		checkFixed(t, f, in, plainFixed(f, in), true)
	}
}
