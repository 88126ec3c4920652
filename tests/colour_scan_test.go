package tests

import (
	"slices"
	"testing"

	"loop.example/g00339/impl"
)

func TestMostAtByHand(t *testing.T) {
	for _, one := range []struct {
		spans    string
		most, at int
	}{
		{"", 0, 0},
		{"0-1", 1, 0},
		{"7-9", 1, 7},
		{"999-1000", 1, 999},
		// What ends is not held where others begin.
		{"0-5 5-10", 1, 0},
		{"5-10 0-5", 1, 0},
		{"0-5 5-10 5-7 7-9", 2, 5},
		{"0-3 0-3 3-6 3-6", 2, 0},
		{"3-6 3-6 0-3 0-3", 2, 0},
		{"0-3 0-3 3-6 3-6 3-4", 3, 3},
		// One moment alone is enough.
		{"0-6 5-10", 2, 5},
		{"5-10 0-6", 2, 5},
		{"0-1000 999-1000", 2, 999},
		// The first of several moments.
		{"20-30 25-28 0-9 2-4", 2, 2},
		{"0-9 2-4 5-7 6-8", 3, 6},
		{"40-50 41-42 60-70 61-62 10-20 19-21", 2, 19},
		{"0-9 1-3 2-4 3-5", 3, 2},
		// Alike.
		{"4-5 4-5 4-5 4-5", 4, 4},
		{"4-5 4-5 0-4 0-4 0-4", 3, 0},
	} {
		checkMostAt(t, spansOf(one.spans), one.most, one.at, true)
	}
	for count := 1; count <= 30; count++ {
		checkMostAt(t, slices.Repeat(spansOf("17-18"), count), count, 17, true)
		checkMostAt(t, slices.Repeat(spansOf("999-1000"), count), count, 999, true)
	}
}

func TestScanByHand(t *testing.T) {
	for _, one := range []struct {
		spans, want string
		used        int
	}{
		{"", "", 0},
		{"0-1", "0", 1},
		{"999-1000", "0", 1},
		// Several that begin at the same moment come by number, whatever their ends.
		{"3-9 3-5 3-4", "0,1,2", 3},
		{"3-4 3-5 3-9", "0,1,2", 3},
		{"3-4 0-9 3-5 3-4", "1,0,2,3", 4},
		// In any order in the list.
		{"5-9 4-8 3-7 2-6 1-6", "4,3,2,1,0", 5},
		{"2-5 0-3 1-4", "2,0,1", 3},
		{"9-10 0-1 5-6", "0,0,0", 1},
		// A number is free again just at the moment To.
		{"0-5 5-10", "0,0", 1},
		{"5-10 0-5", "0,0", 1},
		{"0-5 4-10", "0,1", 2},
		{"4-10 0-5", "1,0", 2},
		{"0-9 1-3 2-4 3-5", "0,1,2,1", 3},
		{"0-2 0-4 2-6 4-8", "0,1,0,1", 2},
		// The least of several that are free, not the one that is free last.
		{"0-4 0-3 0-2 5-6 5-6 5-6", "0,1,2,0,1,2", 3},
		{"0-9 0-3 0-2 4-5", "0,1,2,1", 3},
		{"0-2 0-9 1-3 3-4 3-5", "0,1,2,0,2", 3},
		// Alike.
		{"1-2 1-2 1-2", "0,1,2", 3},
	} {
		checkScan(t, spansOf(one.spans), numbersOf(one.want), one.used, true)
	}
	for count := 1; count <= 30; count++ {
		checkScan(t, slices.Repeat(spansOf("0-1000"), count), numbersTo(count), count, true)
	}
}

// TestScanOfStairs: each of 30 begins where the one ahead is held yet; with two numbers all of them do.
func TestScanOfStairs(t *testing.T) {
	var rising, want []impl.Span
	var places []int
	for k := range 30 {
		rising = append(rising, impl.Span{From: 10 * k, To: 10*k + 15})
		places = append(places, k%2)
	}
	checkScan(t, rising, places, 2, true)
	checkMostAt(t, rising, 2, 10, true)
	want = slices.Clone(rising)
	slices.Reverse(want)
	slices.Reverse(places)
	checkScan(t, want, places, 2, true)
	checkMostAt(t, want, 2, 10, true)
}

func TestAllFewSpans(t *testing.T) {
	for count := range 5 {
		end := []int{4, 6, 6, 5, 4}[count]
		allSpanRows(allSpans(end), count, func(l []impl.Span) {
			checkSpans(t, l)
			if t.Failed() {
				t.Fatal(l)
			}
		})
	}
}

func TestSpansDrawn(t *testing.T) {
	r := draw(1401)
	again, mixed, later := 0, 0, 0
	for range 5000 {
		l := drawSpans(&r, 30)
		checkSpans(t, l)
		places, used, _ := impl.ScanSpans(l)
		if used < len(l) {
			again++
		}
		if !slices.IsSortedFunc(l, func(a, b impl.Span) int { return a.From - b.From }) && !slices.IsSorted(places) {
			mixed++
		}
		if _, at, _ := impl.MostAt(l); at > 0 {
			later++
		}
		if t.Failed() {
			t.Fatal(l)
		}
	}
	if again < 1500 || mixed < 3000 || later < 2000 {
		t.Errorf("too few: %d with numbers given again, %d out of order, %d with the most later", again, mixed, later)
	}
}
