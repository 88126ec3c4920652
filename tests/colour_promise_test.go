package tests

import (
	"slices"
	"testing"

	"loop.example/g00339/impl"
)

// checkPromise14 holds the numbers of spans against the most that are held; it tells how many that are.
func checkPromise14(t *testing.T, l []impl.Span) int {
	t.Helper()
	places, used, ok := impl.ScanSpans(l)
	most, at, hasMost := impl.MostAt(l)
	if is, isAsked := impl.IsPlaced(l, places); !is || !isAsked || !ok || !hasMost || used != most {
		t.Fatalf("%v: %v, %d numbers (%v); placed %v %v; %d are held at %d (%v)", l, places, used, ok, is, isAsked, most, at, hasMost)
	}
	if plainUsed(places) != used || len(places) > 0 && slices.Max(places) >= used {
		t.Fatalf("%v: %v are not %d numbers", l, places, used)
	}
	if held := momentsOf(l)[at]; len(held) != most {
		t.Fatalf("%v: at %d %v are held, not %d", l, at, held, most)
	}
	return most
}

// checkLeftOut holds what is left out of spans against their numbers; it tells how many are.
func checkLeftOut(t *testing.T, l []impl.Span, most int) int {
	t.Helper()
	places, out, ok := impl.SpillTo(l, most)
	if !ok || len(places) != len(l) || !slices.Equal(out, placesWithout(places)) {
		t.Fatalf("%v to %d: %v %v %v", l, most, places, out, ok)
	}
	var kept []impl.Span
	var keptPlaces []int
	for k, place := range places {
		if place >= 0 {
			kept, keptPlaces = append(kept, l[k]), append(keptPlaces, place)
		}
	}
	if len(kept)+len(out) != len(l) || len(kept) > 0 && slices.Max(keptPlaces) >= most {
		t.Fatalf("%v to %d: %v %v", l, most, places, out)
	}
	if is, ok := impl.IsPlaced(kept, keptPlaces); !is || !ok || !plainPlaced(kept, keptPlaces) {
		t.Fatalf("%v to %d: %v share numbers: %v %v", l, most, places, is, ok)
	}
	return len(out)
}

// checkNoneOut: where numbers do for all that are held at once they are those that ScanSpans gives.
func checkNoneOut(t *testing.T, l []impl.Span, held, most int) {
	t.Helper()
	scanned, _, _ := impl.ScanSpans(l)
	places, out, ok := impl.SpillTo(l, most)
	if isNone := len(out) == 0; isNone != (most >= held) || !ok || isNone && !slices.Equal(places, scanned) {
		t.Fatalf("%v to %d, %d are held: %v %v %v; scanned %v", l, most, held, places, out, ok, scanned)
	}
}

// hasNumbering tells whether any numbers below an end do, all of them tried.
func hasNumbering(l []impl.Span, end int) bool {
	has := false
	allNumberings(len(l), 0, end, func(places []int) { has = has || plainPlaced(l, places) })
	return has
}

// fewestOut tries all numbers below an end, and -1 for what is left out.
func fewestOut(l []impl.Span, end int) int {
	fewest := len(l)
	allNumberings(len(l), -1, end, func(places []int) {
		if out := len(placesWithout(places)); out < fewest && plainPlacedBut(l, places) {
			fewest = out
		}
	})
	return fewest
}

// plainPlacedBut tells whether those that have a number share none.
func plainPlacedBut(l []impl.Span, places []int) bool {
	for j := range l {
		for k := range j {
			if places[j] >= 0 && places[j] == places[k] && doTouch(l[j], l[k]) {
				return false
			}
		}
	}
	return true
}

func TestPromise14OfAllFewSpans(t *testing.T) {
	left := 0
	for count := range 5 {
		end := []int{4, 5, 5, 4, 4}[count]
		allSpanRows(allSpans(end), count, func(l []impl.Span) {
			held := checkPromise14(t, l)
			if held > 0 && hasNumbering(l, held-1) {
				t.Fatalf("%v: fewer than %d numbers do", l, held)
			}
			for most := 1; most <= 3; most++ {
				checkNoneOut(t, l, held, most)
				out := checkLeftOut(t, l, most)
				if fewest := fewestOut(l, most); out != fewest {
					t.Fatalf("%v to %d: %d are left out, not %d", l, most, out, fewest)
				}
				left += out
			}
		})
	}
	if left < 5000 {
		t.Errorf("too few are left out: %d", left)
	}
}

// fewestLeft tries all choices of some spans to be left out: what is kept must never be more at once than numbers.
func fewestLeft(l []impl.Span, most int) int {
	fewest := len(l)
	for choice := range 1 << len(l) {
		var kept []impl.Span
		for k, s := range l {
			if choice>>k&1 == 0 {
				kept = append(kept, s)
			}
		}
		if len(l)-len(kept) < fewest && mostTogether(kept) <= most {
			fewest = len(l) - len(kept)
		}
	}
	return fewest
}

// mostTogether counts at the first moment of each span who is held.
func mostTogether(l []impl.Span) int {
	most := 0
	for _, a := range l {
		together := 0
		for _, b := range l {
			if b.From <= a.From && a.From < b.To {
				together++
			}
		}
		most = max(most, together)
	}
	return most
}

func TestPromise14Drawn(t *testing.T) {
	r := draw(1404)
	left, most2 := 0, 0
	for range 600 {
		l := drawSpans(&r, 9)
		held := checkPromise14(t, l)
		for most := 1; most <= 4; most++ {
			checkNoneOut(t, l, held, most)
			out := checkLeftOut(t, l, most)
			if fewest := fewestLeft(l, most); out != fewest {
				t.Fatalf("%v to %d: %d are left out, not %d", l, most, out, fewest)
			}
			if out > 0 {
				left++
			}
			if out > 2 && most > 1 {
				most2++
			}
		}
	}
	if left < 600 || most2 < 100 {
		t.Errorf("too few are left out: %d, %d", left, most2)
	}
}

func TestPromise14OfManySpansDrawn(t *testing.T) {
	r := draw(1405)
	for range 3000 {
		l := drawSpans(&r, 30)
		held := checkPromise14(t, l)
		last := len(l) + 1
		for _, most := range []int{1, 2, 3, 5, 8, 13, 30} {
			checkNoneOut(t, l, held, most)
			out := checkLeftOut(t, l, most)
			if out > last {
				t.Fatalf("%v to %d: %d are left out, by fewer numbers %d", l, most, out, last)
			}
			last = out
		}
		for _, most := range []int{held - 1, held, held + 1} {
			if most >= 1 && most <= 30 {
				checkNoneOut(t, l, held, most)
			}
		}
	}
}

// TestNumberingsOfFewerPlacesDrawn: of up to 6 spans no numbers below the most that are held do.
func TestNumberingsOfFewerPlacesDrawn(t *testing.T) {
	r := draw(1406)
	tried := 0
	for range 300 {
		l := drawSpans(&r, 6)
		held := checkPromise14(t, l)
		if held < 2 || held > 5 {
			continue
		}
		tried++
		if hasNumbering(l, held-1) || !hasNumbering(l, held) {
			t.Fatalf("%v: not just %d numbers are needed", l, held)
		}
	}
	if tried < 150 {
		t.Errorf("too few: %d", tried)
	}
}
