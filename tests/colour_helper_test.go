package tests

import (
	"slices"
	"strings"
	"testing"

	"loop.example/g00339/impl"
)

// spansOf reads spans: 3-7 is one that is held from 3 up to less than 7.
func spansOf(text string) []impl.Span {
	var out []impl.Span
	for _, word := range strings.Fields(text) {
		from, to, _ := strings.Cut(word, "-")
		out = append(out, impl.Span{From: numberOf(from), To: numberOf(to)})
	}
	return out
}

func plainGoodSpans(l []impl.Span) bool {
	for _, s := range l {
		if !(0 <= s.From && s.From < s.To && s.To <= 1000) {
			return false
		}
	}
	return len(l) <= 30
}

// momentsOf tells for each moment the spans that are held then: each span is written at all of its moments.
func momentsOf(l []impl.Span) [1001][]int {
	var out [1001][]int
	for k, s := range l {
		for at := s.From; at < s.To; at++ {
			out[at] = append(out[at], k)
		}
	}
	return out
}

func plainMost(l []impl.Span) (int, int) {
	most, first := 0, 0
	for at, held := range momentsOf(l) {
		if len(held) > most {
			most, first = len(held), at
		}
	}
	return most, first
}

// doTouch tells whether two spans are held at one moment.
func doTouch(a, b impl.Span) bool {
	return max(a.From, b.From) < min(a.To, b.To)
}

// plainPlaced holds each two spans against each other.
func plainPlaced(l []impl.Span, places []int) bool {
	for j := range l {
		for k := range j {
			if places[j] == places[k] && doTouch(l[j], l[k]) {
				return false
			}
		}
	}
	return len(l) == 0 || slices.Min(places) >= 0
}

func plainFreeAt(l []impl.Span, places []int, at int) int {
	for place := 0; ; place++ {
		isFree := true
		for k, s := range l {
			isFree = isFree && !(places[k] == place && s.From <= at && at < s.To)
		}
		if isFree {
			return place
		}
	}
}

// plainSpill goes from moment to moment; at each it tells who is over, then who begins. With as many numbers as spans nobody is left out.
func plainSpill(l []impl.Span, most int) []int {
	places := slices.Repeat([]int{-1}, len(l))
	having := make([]int, most)
	for place := range having {
		having[place] = -1
	}
	for at := range 1000 {
		for place, k := range having {
			if k >= 0 && l[k].To == at {
				having[place] = -1
			}
		}
		for k, s := range l {
			if s.From == at {
				plainGive(l, places, having, k)
			}
		}
	}
	return places
}

// plainGive gives the first number that nobody has, or that of the worst one: held longest, then this one, then the first one.
func plainGive(l []impl.Span, places, having []int, this int) {
	place := slices.Index(having, -1)
	if place < 0 {
		all := append(slices.Clone(having), this)
		slices.SortFunc(all, func(a, b int) int {
			switch {
			case l[a].To != l[b].To:
				return l[b].To - l[a].To
			case a == this || b != this && a < b:
				return -1
			}
			return 1
		})
		if all[0] == this {
			return
		}
		place, places[all[0]] = places[all[0]], -1
	}
	places[this], having[place] = place, this
}

// placesWithout tells the numbers of the spans that hold -1, rising.
func placesWithout(places []int) []int {
	var out []int
	for k, place := range places {
		if place == -1 {
			out = append(out, k)
		}
	}
	return out
}

// plainUsed counts the numbers that are not alike.
func plainUsed(places []int) int {
	used := slices.Clone(places)
	slices.Sort(used)
	return len(slices.Compact(used))
}

// drawSpan draws a span within some moments, or one at an end of all moments.
func drawSpan(r *draw, moments, long int) impl.Span {
	from := r.below(moments)
	s := impl.Span{From: from, To: min(from+1+r.below(long), 1000)}
	if moments == 1000 {
		switch r.below(12) {
		case 0:
			s.From = 0
		case 1:
			s.To = 1000
		}
	}
	return s
}

// drawSpans draws good spans: crowded or far from each other, short or long, some of them alike.
func drawSpans(r *draw, most int) []impl.Span {
	moments := []int{4, 10, 30, 100, 1000}[r.below(5)]
	long := 1 + r.below(moments)
	var out []impl.Span
	for range r.below(most + 1) {
		s := drawSpan(r, moments, long)
		if len(out) > 0 && r.below(6) == 0 {
			s = out[r.below(len(out))]
		}
		out = append(out, s)
	}
	return out
}

// drawPlaces draws numbers for spans: as few as do, spread, or such as seldom do.
func drawPlaces(r *draw, l []impl.Span) []int {
	places := plainSpill(l, 30)
	switch r.below(4) {
	case 0:
		step, first := 1+r.below(4), r.below(3)
		for k := range places {
			places[k] = places[k]*step + first
		}
	case 1:
		if len(places) > 0 {
			places[r.below(len(places))] = []int{-1 << 63, -1, 0, 1, 2, 3, 29, 30, 31, 1000, 1<<63 - 1}[r.below(11)]
		}
	case 2:
		for k := range places {
			places[k] = r.below(30)
		}
	}
	return places
}

// allSpans tells each span that ends at a moment or before it.
func allSpans(end int) []impl.Span {
	var out []impl.Span
	for from := range end {
		for to := from + 1; to <= end; to++ {
			out = append(out, impl.Span{From: from, To: to})
		}
	}
	return out
}

// allSpanRows hands on each row of so many spans.
func allSpanRows(spans []impl.Span, count int, each func(l []impl.Span)) {
	if count == 0 {
		each(nil)
		return
	}
	allSpanRows(spans, count-1, func(l []impl.Span) {
		for _, s := range spans {
			each(append(slices.Clone(l), s))
		}
	})
}

// allNumberings hands on each list of so many numbers from the lowest up to less than an end.
func allNumberings(count, lowest, end int, each func(places []int)) {
	places := slices.Repeat([]int{lowest}, count)
	var from func(k int)
	from = func(k int) {
		if k == count {
			each(places)
			return
		}
		for n := lowest; n < end; n++ {
			places[k] = n
			from(k + 1)
		}
	}
	from(0)
}

func checkSpansKept(t *testing.T, l, kept []impl.Span) {
	t.Helper()
	if !slices.Equal(l, kept) {
		t.Errorf("changed: %v, was %v", l, kept)
	}
}

func checkGoodSpans(t *testing.T, l []impl.Span, want bool) {
	t.Helper()
	kept := slices.Clone(l)
	if got := impl.GoodSpans(l); got != want {
		t.Errorf("GoodSpans(%v): %v", l, got)
	}
	checkSpansKept(t, l, kept)
}

func checkScan(t *testing.T, l []impl.Span, want []int, used int, is bool) {
	t.Helper()
	kept := slices.Clone(l)
	if got, n, ok := impl.ScanSpans(l); !slices.Equal(got, want) || n != used || ok != is {
		t.Errorf("ScanSpans(%v): %v %v %v, want %v %v %v", l, got, n, ok, want, used, is)
	}
	checkSpansKept(t, l, kept)
}

func checkMostAt(t *testing.T, l []impl.Span, most, at int, is bool) {
	t.Helper()
	kept := slices.Clone(l)
	if got, first, ok := impl.MostAt(l); got != most || first != at || ok != is {
		t.Errorf("MostAt(%v): %v %v %v, want %v %v %v", l, got, first, ok, most, at, is)
	}
	checkSpansKept(t, l, kept)
}

func checkIsPlaced(t *testing.T, l []impl.Span, places []int, want, is bool) {
	t.Helper()
	kept, placesKept := slices.Clone(l), slices.Clone(places)
	if got, ok := impl.IsPlaced(l, places); got != want || ok != is {
		t.Errorf("IsPlaced(%v, %v): %v %v, want %v %v", l, places, got, ok, want, is)
	}
	checkSpansKept(t, l, kept)
	checkNumbersKept(t, places, placesKept)
}

func checkFreeAt(t *testing.T, l []impl.Span, places []int, at, want int, is bool) {
	t.Helper()
	kept, placesKept := slices.Clone(l), slices.Clone(places)
	if got, ok := impl.FreeAt(l, places, at); got != want || ok != is {
		t.Errorf("FreeAt(%v, %v, %d): %v %v, want %v %v", l, places, at, got, ok, want, is)
	}
	checkSpansKept(t, l, kept)
	checkNumbersKept(t, places, placesKept)
}

func checkSpill(t *testing.T, l []impl.Span, most int, want, out []int, is bool) {
	t.Helper()
	kept := slices.Clone(l)
	if got, gone, ok := impl.SpillTo(l, most); !slices.Equal(got, want) || !slices.Equal(gone, out) || ok != is {
		t.Errorf("SpillTo(%v, %d): %v %v %v, want %v %v %v", l, most, got, gone, ok, want, out, is)
	}
	checkSpansKept(t, l, kept)
}

// checkSpans holds what is told of good spans alone against the plain words.
func checkSpans(t *testing.T, l []impl.Span) {
	t.Helper()
	checkGoodSpans(t, l, true)
	most, at := plainMost(l)
	checkMostAt(t, l, most, at, true)
	places := plainSpill(l, 30)
	checkScan(t, l, places, plainUsed(places), true)
}

// checkSpilled holds what is told of good spans and so many numbers against the plain words.
func checkSpilled(t *testing.T, l []impl.Span, most int) {
	t.Helper()
	if most < 1 || most > 30 {
		checkSpill(t, l, most, nil, nil, false)
		return
	}
	places := plainSpill(l, most)
	checkSpill(t, l, most, places, placesWithout(places), true)
}

// checkPlaced holds what is told of good spans, numbers and a moment against the plain words.
func checkPlaced(t *testing.T, l []impl.Span, places []int, at int) {
	t.Helper()
	if len(places) != len(l) {
		checkIsPlaced(t, l, places, false, false)
		checkFreeAt(t, l, places, at, 0, false)
		return
	}
	is := plainPlaced(l, places)
	checkIsPlaced(t, l, places, is, true)
	if !is || at < 0 || at > 1000 {
		checkFreeAt(t, l, places, at, 0, false)
		return
	}
	checkFreeAt(t, l, places, at, plainFreeAt(l, places, at), true)
}

// checkSpansRefused asks each function of spans that are not good.
func checkSpansRefused(t *testing.T, l []impl.Span) {
	t.Helper()
	checkGoodSpans(t, l, false)
	checkScan(t, l, nil, 0, false)
	checkMostAt(t, l, 0, 0, false)
	for _, most := range []int{-1, 0, 1, 2, 30, 31} {
		checkSpill(t, l, most, nil, nil, false)
	}
	for _, places := range [][]int{nil, {0}, numbersTo(len(l)), numbersTo(30)} {
		checkIsPlaced(t, l, places, false, false)
		for _, at := range []int{-1, 0, 1, 1000, 1001} {
			checkFreeAt(t, l, places, at, 0, false)
		}
	}
}
