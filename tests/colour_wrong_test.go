package tests

import (
	"slices"
	"testing"

	"loop.example/g00339/impl"
)

// TestSpansOfRowsDrawn draws rows that are seldom good, with numbers and moments of any size.
func TestSpansOfRowsDrawn(t *testing.T) {
	r := draw(1407)
	ends := []int{-1 << 63, -1, 0, 0, 1, 2, 3, 500, 999, 1000, 1001, 1<<63 - 1}
	numbers := []int{-1 << 63, -1, 0, 0, 1, 1, 2, 29, 30, 31, 1<<63 - 1}
	moments := []int{-1 << 63, -1, 0, 1, 2, 999, 1000, 1001, 1<<63 - 1}
	good, bad, freed := 0, 0, 0
	for range 20000 {
		l := make([]impl.Span, r.below(5))
		for k := range l {
			l[k] = impl.Span{From: ends[r.below(len(ends))], To: ends[r.below(len(ends))]}
			if r.below(2) == 0 {
				l[k] = drawSpan(&r, 4, 5)
			}
		}
		if !plainGoodSpans(l) {
			bad++
			checkSpansRefused(t, l)
			continue
		}
		good++
		checkSpans(t, l)
		checkSpilled(t, l, numbers[r.below(len(numbers))])
		places := make([]int, r.below(5))
		if r.below(2) == 0 {
			places = make([]int, len(l))
		}
		for k := range places {
			places[k] = numbers[r.below(len(numbers))]
		}
		at := moments[r.below(len(moments))]
		checkPlaced(t, l, places, at)
		if _, ok := impl.FreeAt(l, places, at); ok {
			freed++
		}
	}
	if good < 4000 || bad < 4000 || freed < 500 {
		t.Errorf("too few: %d good, %d bad, %d freed", good, bad, freed)
	}
}

// TestSpansBehindTheLength: what lies behind a list's length is neither read, nor written, nor handed out.
func TestSpansBehindTheLength(t *testing.T) {
	r := draw(1408)
	junk, junkNumbers := []impl.Span{{From: 9, To: 3}, {From: 0, To: 1000}}, []int{-5, 0}
	for range 500 {
		l := withMore(drawSpans(&r, 30), junk...)
		places := withMore(drawPlaces(&r, l), junkNumbers...)
		checkSpans(t, l)
		checkSpilled(t, l, 1+r.below(4))
		checkPlaced(t, l, places, r.below(40))
		if !slices.Equal(behind(l, 2), junk) || !slices.Equal(behind(places, 2), junkNumbers) {
			t.Fatal("written behind a list's length")
		}
	}
}

// TestSpansCutOff: what would be good with what lies behind it, is not; what would not, is.
func TestSpansCutOff(t *testing.T) {
	l := slices.Repeat(spansOf("4-6"), 31)
	checkSpans(t, l[:30])
	checkSpansRefused(t, l)
	l[7].To = 4
	checkSpans(t, l[:7])
	checkSpansRefused(t, l[:8])
	few := spansOf("0-3 1-4 2-5")
	checkMostAt(t, few[:2], 2, 1, true)
	checkScan(t, few[:2], []int{0, 1}, 2, true)
	checkSpill(t, few[:1], 1, []int{0}, nil, true)
	checkPlaced(t, few[:2], []int{0, 1, 2}[:1], 2)
	checkPlaced(t, few[:2], []int{0, 1, 2}[:3], 2)
	checkIsPlaced(t, few[:2], []int{0, 1, 2}[:2], true, true)
	checkFreeAt(t, few[:2], []int{0, 1, 2}[:2], 2, 2, true)
	checkIsPlaced(t, few[:0], []int{-1, 1}[:0], true, true)
	checkFreeAt(t, few[:0], []int{0, 1}[:0], 2, 0, true)
}

// TestSpansAnswersOfTheirOwn writes into each list of an answer as far as its memory goes: no argument may change, no other list, and what was told is told again.
func TestSpansAnswersOfTheirOwn(t *testing.T) {
	r := draw(1409)
	shared := 0
	for range 500 {
		l := drawSpans(&r, 30)
		kept := slices.Clone(l)
		most := 1 + r.below(4)
		for range 2 {
			checkSpans(t, l)
			checkSpilled(t, l, most)
			one, _, _ := impl.ScanSpans(l)
			two, _, _ := impl.ScanSpans(l)
			places, out, _ := impl.SpillTo(l, most)
			again, outAgain, _ := impl.SpillTo(l, most)
			if len(out) > 0 {
				shared++
			}
			scribbleLists(t, [][]int{one, two, places, out, again, outAgain})
			checkSpansKept(t, l, kept)
		}
	}
	if shared < 300 {
		t.Errorf("too few with some left out: %d", shared)
	}
}

// TestSpansToldAgain: what is told hangs on the arguments alone, not on the order in which a map is gone through.
func TestSpansToldAgain(t *testing.T) {
	r := draw(1410)
	for range 30 {
		l := slices.Concat(spansOf("0-40 0-40 1-40 0-40 3-9"), drawSpans(&r, 25))
		for range 20 {
			for most := 1; most <= 6; most++ {
				checkSpilled(t, l, most)
			}
			checkSpans(t, l)
		}
	}
}
