package tests

import (
	"slices"
	"testing"

	"loop.example/g00339/impl"
)

func TestSpillByHand(t *testing.T) {
	for _, one := range []struct {
		spans     string
		most      int
		want, out string
	}{
		{"", 1, "", ""},
		{"", 30, "", ""},
		{"0-1", 1, "0", ""},
		{"0-1000", 30, "0", ""},
		// What ends has no number any more where the next one begins.
		{"0-5 5-10 10-15", 1, "0,0,0", ""},
		{"10-15 5-10 0-5", 1, "0,0,0", ""},
		// The one that comes is held longest: it is left out.
		{"0-5 1-9", 1, "0,-1", "1"},
		{"1-9 0-5", 1, "-1,0", "0"},
		{"0-5 0-6 1-9", 2, "0,1,-1", "2"},
		// Another one is: its number goes to the one that comes.
		{"0-9 1-5", 1, "-1,0", "0"},
		{"1-5 0-9", 1, "0,-1", "1"},
		{"0-5 0-9 1-6", 2, "0,-1,1", "1"},
		{"0-9 0-5 1-6", 2, "-1,1,0", "0"},
		{"0-9 1-3 2-4 3-5", 2, "-1,1,0,1", "0"},
		// Of several that are held as long it is the one that comes ..
		{"0-9 1-9", 1, "0,-1", "1"},
		{"1-9 0-9", 1, "-1,0", "0"},
		{"0-9 0-9 0-9", 2, "0,1,-1", "2"},
		{"0-9 0-9 1-9", 2, "0,1,-1", "2"},
		{"1-9 0-9 0-9", 2, "-1,0,1", "0"},
		{"1-9 0-9 0-5", 2, "-1,0,1", "0"},
		// .. otherwise the first one by number, whatever its own number or its From.
		{"0-9 0-9 1-5", 2, "-1,1,0", "0"},
		{"1-5 0-9 0-9", 2, "0,-1,1", "1"},
		{"1-9 0-9 2-5", 2, "-1,0,1", "0"},
		{"0-9 1-9 2-5", 2, "-1,1,0", "0"},
		{"2-5 1-9 0-9", 2, "1,-1,0", "1"},
		{"0-4 1-9 0-9 2-5", 3, "0,-1,1,2", "1"},
		// One that was left out takes no number any more, and isn't left out again.
		{"0-9 1-5 2-4", 1, "-1,-1,0", "0,1"},
		{"0-9 1-5 5-8", 1, "-1,0,0", "0"},
		{"0-9 1-3 3-5 5-7 7-8", 1, "-1,0,0,0,0", "0"},
		{"0-100 1-5 2-90 6-80 7-70", 1, "-1,0,-1,-1,0", "0,2,3"},
		{"0-5 1-9 6-8", 1, "0,-1,0", "1"},
		{"0-9 0-8 1-5 2-4", 2, "-1,-1,0,1", "0,1"},
		{"0-9 0-8 1-5 5-7 6-8", 2, "-1,1,0,0,-1", "0,4"},
		// Those left out rise by number, not by when they are.
		{"4-9 3-8 2-7 1-6 0-5", 1, "-1,-1,-1,-1,0", "0,1,2,3"},
		{"4-5 3-6 2-7 1-8 0-9", 1, "0,-1,-1,-1,-1", "1,2,3,4"},
		{"4-5 3-6 2-7 1-8 0-9", 2, "0,1,-1,-1,-1", "2,3,4"},
		{"4-5 3-6 2-7 1-8 0-9", 4, "0,3,2,1,-1", "4"},
		{"4-5 3-6 2-7 1-8 0-9", 5, "4,3,2,1,0", ""},
		{"4-5 3-6 2-7 1-8 0-9", 30, "4,3,2,1,0", ""},
		// The least number that is free, not that of the one over last.
		{"0-4 0-3 0-2 5-6 5-6 5-6", 3, "0,1,2,0,1,2", ""},
		{"0-9 0-3 0-2 4-5", 3, "0,1,2,1", ""},
	} {
		checkSpill(t, spansOf(one.spans), one.most, numbersOf(one.want), numbersOf(one.out), true)
	}
}

// TestSpillOfAlike: of many alike the first ones have the numbers, the others are left out.
func TestSpillOfAlike(t *testing.T) {
	for count := range 31 {
		l := slices.Repeat(spansOf("0-1000"), count)
		for most := 1; most <= 30; most++ {
			places, out := numbersTo(count), []int(nil)
			for k := most; k < count; k++ {
				places[k] = -1
				out = append(out, k)
			}
			checkSpill(t, l, most, places, out, true)
		}
	}
}

func TestSpillOfWrongMost(t *testing.T) {
	for _, text := range []string{"", "0-1", "0-9 1-3 2-4 3-5"} {
		for _, most := range []int{-1 << 63, -1 << 32, -30, -2, -1, 0, 31, 32, 1000, 1 << 32, 1<<32 + 1, 1<<63 - 1} {
			checkSpill(t, spansOf(text), most, nil, nil, false)
		}
		for most := 1; most <= 30; most++ {
			checkSpilled(t, spansOf(text), most)
		}
	}
}

func TestAllFewSpansSpilled(t *testing.T) {
	for count := range 5 {
		end := []int{4, 6, 6, 5, 4}[count]
		allSpanRows(allSpans(end), count, func(l []impl.Span) {
			for most := 1; most <= 4; most++ {
				checkSpilled(t, l, most)
			}
			if t.Failed() {
				t.Fatal(l)
			}
		})
	}
}

func TestSpillDrawn(t *testing.T) {
	r := draw(1403)
	none, some, other := 0, 0, 0
	for range 4000 {
		l := drawSpans(&r, 30)
		for _, most := range []int{1, 2, 3, 1 + r.below(30), 30} {
			checkSpilled(t, l, most)
			_, out, _ := impl.SpillTo(l, most)
			if len(out) > 0 {
				some++
			} else {
				none++
			}
			if len(out) > 1 && out[0] > 0 {
				other++
			}
		}
		if t.Failed() {
			t.Fatal(l)
		}
	}
	if none < 4000 || some < 4000 || other < 3000 {
		t.Errorf("too few: %d with none left out, %d with some, %d with others than the first", none, some, other)
	}
}
