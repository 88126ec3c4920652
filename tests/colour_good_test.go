package tests

import (
	"slices"
	"testing"

	"loop.example/g00339/impl"
)

func TestColourConstants(t *testing.T) {
	if impl.MaxSpans != 30 {
		t.Errorf("%d", impl.MaxSpans)
	}
}

func TestGoodSpansByHand(t *testing.T) {
	for _, text := range []string{
		"0-1", "0-1000", "999-1000", "5-6", "0-1 0-1", "3-7 3-7 3-7", "5-9 0-2", "0-5 5-10", "0-1000 0-1000 999-1000 0-1",
	} {
		checkSpans(t, spansOf(text))
	}
}

func TestGoodSpansOfNone(t *testing.T) {
	for _, l := range [][]impl.Span{nil, {}, spansOf("1-2")[:0]} {
		checkSpans(t, l)
	}
}

func TestGoodSpansCounts(t *testing.T) {
	for _, one := range []impl.Span{{From: 0, To: 1}, {From: 0, To: 1000}, {From: 999, To: 1000}} {
		for count := range 40 {
			l := slices.Repeat([]impl.Span{one}, count)
			if count <= 30 {
				checkSpans(t, l)
			} else {
				checkSpansRefused(t, l)
			}
		}
		checkSpansRefused(t, slices.Repeat([]impl.Span{one}, 100000))
	}
}

// TestGoodSpansOfWrongEnds sets both ends of a span, at each place among others, to such as are good together and such as are not.
func TestGoodSpansOfWrongEnds(t *testing.T) {
	ends := []int{-1 << 63, -1 << 32, -1001, -2, -1, 0, 1, 2, 499, 500, 501, 998, 999, 1000, 1001, 1002, 1 << 32, 1<<32 + 1, 1<<63 - 1}
	good, bad := 0, 0
	for _, from := range ends {
		for _, to := range ends {
			for at := range 3 {
				l := spansOf("0-9 3-4 2-1000")
				l[at] = impl.Span{From: from, To: to}
				if from >= 0 && to <= 1000 && from < to {
					checkSpans(t, l)
					good++
				} else {
					checkSpansRefused(t, l)
					bad++
				}
				if t.Failed() {
					t.Fatalf("from %d to %d at %d", from, to, at)
				}
			}
		}
	}
	// 9 of the ends are within 0..1000.
	if good != 3*9*8/2 || good+bad != 3*len(ends)*len(ends) {
		t.Errorf("%d good, %d bad", good, bad)
	}
}

func TestGoodSpansOfZeroSpans(t *testing.T) {
	for count := 1; count <= 30; count++ {
		checkSpansRefused(t, make([]impl.Span, count))
	}
	checkSpansRefused(t, []impl.Span{{From: 5, To: 5}})
	checkSpansRefused(t, []impl.Span{{From: 6, To: 5}})
	checkSpansRefused(t, []impl.Span{{From: 1000, To: 1000}})
	checkSpansRefused(t, []impl.Span{{From: 1000, To: 1001}})
}
