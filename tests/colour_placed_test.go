package tests

import (
	"slices"
	"testing"

	"loop.example/g00339/impl"
)

func TestIsPlacedByHand(t *testing.T) {
	for _, one := range []struct {
		spans, places string
		want, is      bool
	}{
		{"", "", true, true},
		{"", "0", false, false},
		{"", "-1", false, false},
		{"0-1", "", false, false},
		{"0-1", "0", true, true},
		{"0-1", "0,1", false, false},
		{"0-1", "-1", false, true},
		{"0-1", "-9223372036854775808", false, true},
		{"0-1", "9223372036854775807", true, true},
		{"0-1", "30", true, true},
		{"0-1 0-1", "0", false, false},
		{"0-1 0-1", "0,1,2", false, false},
		// Two that touch may have the same number, either way round.
		{"0-5 5-10", "0,0", true, true},
		{"5-10 0-5", "7,7", true, true},
		// Two that share one moment alone may not.
		{"0-6 5-10", "0,0", false, true},
		{"5-10 0-6", "7,7", false, true},
		{"0-6 5-10", "0,1", true, true},
		{"0-1000 999-1000", "3,3", false, true},
		{"0-1 0-1000", "3,3", false, true},
		// One within the other.
		{"0-9 3-4", "1,1", false, true},
		{"3-4 0-9", "1,1", false, true},
		{"3-4 0-9", "1,0", true, true},
		{"3-9 3-4", "1,1", false, true},
		{"3-9 8-9", "1,1", false, true},
		{"3-9 3-9", "1,1", false, true},
		// A number below 0, at each place, even where nobody else is held then.
		{"0-1 5-6 8-9", "-1,0,0", false, true},
		{"0-1 5-6 8-9", "0,-1,0", false, true},
		{"0-1 5-6 8-9", "0,0,-1", false, true},
		{"0-1 5-6 8-9", "0,0,0", true, true},
		// Far out numbers count as any others.
		{"0-9 1-8 2-7", "9223372036854775807,0,4294967296", true, true},
		{"0-9 1-8 2-7", "9223372036854775807,0,9223372036854775807", false, true},
		{"0-9 1-8", "4294967296,0", true, true},
		{"0-9 1-3 2-4 3-5", "0,1,1,0", false, true},
		{"0-9 1-3 2-4 3-5", "0,1,2,1", true, true},
		{"0-9 1-3 2-4 3-5", "0,1,2,2", false, true},
		{"0-9 1-3 2-4 3-5", "5,9,6,7", true, true},
	} {
		checkIsPlaced(t, spansOf(one.spans), numbersOf(one.places), one.want, one.is)
	}
	checkIsPlaced(t, nil, []int{}, true, true)
	checkIsPlaced(t, []impl.Span{}, nil, true, true)
}

func TestIsPlacedCounts(t *testing.T) {
	for count := range 31 {
		l := slices.Repeat(spansOf("2-3"), count)
		for numbers := range 40 {
			checkIsPlaced(t, l, numbersTo(numbers), numbers == count, numbers == count)
			checkIsPlaced(t, l, make([]int, numbers), numbers == count && count < 2, numbers == count)
		}
		checkIsPlaced(t, l, make([]int, 100000), false, false)
	}
}

func TestFreeAtByHand(t *testing.T) {
	for _, one := range []struct {
		spans, places string
		at, want      int
		is            bool
	}{
		{"", "", 0, 0, true},
		{"", "", 1000, 0, true},
		{"", "", -1, 0, false},
		{"", "", 1001, 0, false},
		{"", "", -1 << 63, 0, false},
		{"", "", 1<<63 - 1, 0, false},
		{"", "0", 5, 0, false},
		{"0-1000", "0", 0, 1, true},
		{"0-1000", "0", 999, 1, true},
		// At the moment 1000 nobody is held.
		{"0-1000", "0", 1000, 0, true},
		{"0-1000", "0", 1001, 0, false},
		{"0-1000", "0", -1, 0, false},
		// From is held, To is not.
		{"3-7", "0", 2, 0, true},
		{"3-7", "0", 3, 1, true},
		{"3-7", "0", 6, 1, true},
		{"3-7", "0", 7, 0, true},
		{"3-7 7-9", "0,0", 7, 1, true},
		{"3-7 7-9", "0,1", 7, 0, true},
		{"3-7 7-9", "1,0", 7, 1, true},
		// Gaps.
		{"0-9 0-9 0-9", "0,1,3", 5, 2, true},
		{"0-9 0-9 0-9", "3,0,1", 5, 2, true},
		{"0-9 0-9 0-9", "1,2,3", 5, 0, true},
		{"0-9 0-9 0-9", "2,1,0", 5, 3, true},
		{"0-9 0-3 0-9", "0,1,2", 5, 1, true},
		{"0-9 0-9", "9223372036854775807,0", 5, 1, true},
		{"0-9 0-9", "9223372036854775807,4294967296", 5, 0, true},
		// Where IsPlaced tells false nothing is told, not even at moments when nobody is held.
		{"0-9 0-9", "1,1", 5, 0, false},
		{"0-9 0-9", "1,1", 20, 0, false},
		{"0-9 0-9", "0,-1", 5, 0, false},
		{"0-9 0-9", "0,-1", 20, 0, false},
		{"0-9 0-9", "0", 5, 0, false},
		{"0-9 0-9", "0,1,2", 5, 0, false},
		{"0-9 1-3 2-4 3-5", "0,1,2,1", 8, 1, true},
		{"0-9 1-3 2-4 3-5", "0,1,2,1", 2, 3, true},
		{"0-9 1-3 2-4 3-5", "0,1,2,1", 4, 2, true},
	} {
		checkFreeAt(t, spansOf(one.spans), numbersOf(one.places), one.at, one.want, one.is)
	}
	for count := range 31 {
		checkFreeAt(t, slices.Repeat(spansOf("4-6"), count), numbersTo(count), 5, count, true)
		checkFreeAt(t, slices.Repeat(spansOf("4-6"), count), numbersTo(count), 6, 0, true)
	}
}

func TestAllFewSpansPlaced(t *testing.T) {
	for count := range 4 {
		allSpanRows(allSpans(4), count, func(l []impl.Span) {
			for numbers := range 4 {
				allNumberings(numbers, -1, 3, func(places []int) {
					checkPlaced(t, l, places, (len(l)+sumOfPlaces(places))%5)
				})
			}
			if t.Failed() {
				t.Fatal(l)
			}
		})
	}
}

// sumOfPlaces tells another number for most lists, so that the moments that are asked for change.
func sumOfPlaces(places []int) int {
	sum := 7
	for _, place := range places {
		sum = sum*3 + place + 1
	}
	return sum
}

func TestPlacedDrawn(t *testing.T) {
	r := draw(1402)
	is, not, gaps := 0, 0, 0
	for range 5000 {
		l := drawSpans(&r, 30)
		places := drawPlaces(&r, l)
		for _, at := range []int{-1, 0, 1000, 1001, r.below(30), r.below(1000)} {
			checkPlaced(t, l, places, at)
		}
		if plainPlaced(l, places) {
			is++
		} else {
			not++
		}
		if len(l) == 0 || t.Failed() {
			continue
		}
		for _, at := range []int{l[0].From, l[0].To, l[len(l)-1].From, l[len(l)-1].To - 1} {
			checkPlaced(t, l, places, at)
			if free, ok := impl.FreeAt(l, places, at); ok && free > 0 && free < len(momentsOf(l)[at]) {
				gaps++
			}
		}
	}
	if is < 1500 || not < 1000 || gaps < 200 {
		t.Errorf("too few: %d placed, %d not, %d with gaps", is, not, gaps)
	}
}
