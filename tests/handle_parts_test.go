package tests

import (
	"slices"
	"testing"

	"loop.example/g00339/impl"
)

func checkResults(t *testing.T, c []impl.Comp, want []int, is bool) {
	t.Helper()
	kept := slices.Clone(c)
	got, ok := impl.ResultsOf(c)
	if ok != is || !slices.Equal(got, want) {
		t.Errorf("ResultsOf(%s): %v %v, want %v %v", compText(c), got, ok, want, is)
	}
	if !slices.Equal(c, kept) {
		t.Errorf("changed: %s, was %s", compText(c), compText(kept))
	}
}

func TestResultsOf(t *testing.T) {
	for text, want := range map[string][]int{"0": {0}, "99": {99}, "a 3 1": {3, 1}, "b 3 3": {3, 3}, "a c 5 4 b 5 0": {5, 4, 5, 0}, "a 9 a 8 a 7 7": {9, 8, 7, 7}} {
		checkResults(t, compOf(text), want, true)
	}
	for _, text := range []string{"", "a", "a 1", "1 2", "100", "a 1 100", "a 1 2 3"} {
		checkResults(t, compOf(text), nil, false)
	}
	checkResults(t, nestOf(0, 30), nil, false)
	r := draw(901)
	for range 2000 {
		c := drawComp(&r)
		checkResults(t, c, askingOf(c).told(), true)
	}
}

func checkMapped(t *testing.T, c []impl.Comp, by int, want []impl.Comp, is bool) {
	t.Helper()
	kept := slices.Clone(c)
	got, ok := impl.MapComp(c, by)
	if ok != is || !slices.Equal(got, want) {
		t.Errorf("MapComp(%s, %d): %s %v, want %s %v", compText(c), by, compText(got), ok, compText(want), is)
	}
	if !slices.Equal(c, kept) {
		t.Errorf("changed: %s, was %s", compText(c), compText(kept))
	}
}

func TestMapComp(t *testing.T) {
	c := compOf("a 0 b c 1 50 99")
	checkMapped(t, c, 0, c, true)
	checkMapped(t, c, 1, compOf("a 1 b c 2 51 0"), true)
	checkMapped(t, c, 50, compOf("a 50 b c 51 0 49"), true)
	checkMapped(t, c, 99, compOf("a 99 b c 0 49 98"), true)
	for _, by := range []int{-1 << 63, -100, -1, 100, 101, 1<<63 - 1} {
		checkMapped(t, c, by, nil, false)
		checkMapped(t, nil, by, nil, false)
	}
	for _, text := range []string{"", "a", "a 1", "1 2", "100"} {
		checkMapped(t, compOf(text), 1, nil, false)
	}
	checkMapped(t, chainOf(0, 30), 0, nil, false)
	for n := range 100 {
		for by := range 100 {
			checkMapped(t, []impl.Comp{{Kind: impl.CompRet, N: n}}, by, []impl.Comp{{Kind: impl.CompRet, N: (n + by) % 100}}, true)
		}
	}
	r := draw(902)
	for range 2000 {
		c, by := drawComp(&r), r.below(100)
		checkMapped(t, c, by, askingOf(c).more(by).comp(), true)
	}
}

// tellers tells 100 computations, each of which tells its own number.
func tellers() [][]impl.Comp {
	var out [][]impl.Comp
	for n := range 100 {
		out = append(out, []impl.Comp{{Kind: impl.CompRet, N: n}})
	}
	return out
}

func TestThenCompByHand(t *testing.T) {
	l := tellers()
	checkThen(t, compOf("a 3 b 0 99"), l, compOf("a 3 b 0 99"), true)
	l[3], l[0], l[99] = compOf("c 3 0"), compOf("7"), compOf("a b 1 2 99")
	checkThen(t, compOf("3"), l, compOf("c 3 0"), true)
	checkThen(t, compOf("a 3 b 0 99"), l, compOf("a c 3 0 b 7 a b 1 2 99"), true)
	checkThen(t, compOf("b 3 3"), l, compOf("b c 3 0 c 3 0"), true)
	checkThen(t, compOf("b 4 5"), l, compOf("b 4 5"), true)
}

func TestThenCompCounts(t *testing.T) {
	for _, many := range []int{0, 1, 98, 99, 100, 101, 102, 200, 1000} {
		l := slices.Repeat([][]impl.Comp{compOf("a 1 2")}, many)
		if many == 100 {
			checkThen(t, compOf("0"), l, compOf("a 1 2"), true)
		} else {
			checkThen(t, compOf("0"), l, nil, false)
		}
	}
	checkThen(t, compOf("0"), nil, nil, false)
}

// TestThenCompOfNotGood: all of the 100 are asked to be good, used or not.
func TestThenCompOfNotGood(t *testing.T) {
	wrong := [][]impl.Comp{nil, {}, compOf("a"), compOf("1 2"), compOf("100"), chainOf(0, 30), {{Kind: 3}}, {{Kind: impl.CompAsk, N: 3}, {Kind: 1}, {Kind: 1}}}
	for _, place := range []int{0, 1, 50, 98, 99} {
		for _, one := range wrong {
			l := tellers()
			l[place] = one
			for _, c := range []string{"2", "a 2 3", "0", "a 50 99"} {
				checkThen(t, compOf(c), l, nil, false)
			}
		}
		l := tellers()
		l[place] = chainOf(0, 29)
		checkThen(t, compOf("2"), l, compOf("2"), true)
	}
	for _, one := range wrong {
		checkThen(t, one, tellers(), nil, false)
	}
}

// TestThenCompRoom: the last number told becomes a computation of some size, so that all comes to 59, 61 and more cells.
func TestThenCompRoom(t *testing.T) {
	for asks := range 30 {
		for inner := range 30 {
			c, l := chainOf(1, asks), tellers()
			l[asks] = nestOf(2, inner)
			want := append(slices.Clone(c[:len(c)-1]), l[asks]...)
			if len(want) > 60 {
				checkThen(t, c, l, nil, false)
			} else {
				checkThen(t, c, l, want, true)
			}
			// Too great in the middle, too.
			c[len(c)-1].N, l[0], l[asks] = 0, l[asks], compOf("5")
			want = askingOf(c).then(func(n int) *asking { return askingOf(l[n]) }).comp()
			if len(want) > 60 {
				checkThen(t, c, l, nil, false)
			} else {
				checkThen(t, c, l, want, true)
			}
		}
	}
	// 14 asked and 15 told, each becoming 3 cells, come to 59; 15 and 16 to more.
	l := slices.Repeat([][]impl.Comp{compOf("c 1 2")}, 100)
	if got, ok := impl.ThenComp(nestOf(0, 14), l); !ok || len(got) != 59 {
		t.Errorf("%s %v", compText(got), ok)
	}
	checkThen(t, nestOf(0, 15), l, nil, false)
	// All of one told and 59 of it come to 59.
	l[7] = chainOf(0, 29)
	checkThen(t, compOf("7"), l, l[7], true)
	checkThen(t, compOf("a 7 7"), l, nil, false)
	// The most that there may be at all.
	checkThen(t, nestOf(0, 29), slices.Repeat([][]impl.Comp{nestOf(0, 29)}, 100), nil, false)
}

func TestThenCompDrawn(t *testing.T) {
	r := draw(903)
	good, great := 0, 0
	for range 2000 {
		c, l := drawAsking(&r, r.below(10)).comp(), tellers()
		most := 1 + r.below(12)
		for k := range l {
			l[k] = drawAsking(&r, r.below(most)).comp()
		}
		want := askingOf(c).then(func(n int) *asking { return askingOf(l[n]) })
		if !want.isSmall() {
			great++
			checkThen(t, c, l, nil, false)
			continue
		}
		good++
		checkThen(t, c, l, want.comp(), true)
		got, _ := impl.ThenComp(c, l)
		for range 5 {
			answers := drawAnswers(&r, 20)
			n, left, ok := askingOf(c).askOn(answers, func(n int, left []bool) (int, int, bool) {
				return askingOf(l[n]).askOn(left, tellIt)
			})
			asked := 0
			if ok {
				asked = len(answers) - left
			}
			checkTold(t, got, answers, n, asked, ok)
		}
	}
	if good < 300 || great < 300 {
		t.Errorf("%d good ones, %d too great", good, great)
	}
}

func TestRunComp(t *testing.T) {
	c := compOf("a 1 b c 2 3 4")
	checkTold(t, c, nil, 0, 0, false)
	checkTold(t, c, []bool{true}, 1, 1, true)
	checkTold(t, c, []bool{true, false, true}, 1, 1, true)
	checkTold(t, c, []bool{false}, 0, 0, false)
	checkTold(t, c, []bool{false, false}, 4, 2, true)
	checkTold(t, c, []bool{false, true}, 0, 0, false)
	checkTold(t, c, []bool{false, true, true}, 2, 3, true)
	checkTold(t, c, []bool{false, true, false}, 3, 3, true)
	checkTold(t, c, []bool{false, true, false, false, true}, 3, 3, true)
	checkTold(t, compOf("0"), nil, 0, 0, true)
	checkTold(t, compOf("99"), nil, 99, 0, true)
	checkTold(t, compOf("99"), []bool{}, 99, 0, true)
	checkTold(t, compOf("99"), []bool{true}, 99, 0, true)
	for _, text := range []string{"", "a", "a 1", "1 2", "a 1 2 3", "100", "a 1 100"} {
		checkTold(t, compOf(text), []bool{true}, 0, 0, false)
		checkTold(t, compOf(text), nil, 0, 0, false)
	}
}

func TestRunCompCounts(t *testing.T) {
	for _, many := range []int{59, 60, 61, 62, 1000, 100000} {
		for _, answer := range []bool{true, false} {
			answers := slices.Repeat([]bool{answer}, many)
			if many > 60 {
				checkTold(t, compOf("7"), answers, 0, 0, false)
				checkTold(t, chainOf(0, 29), answers, 0, 0, false)
				continue
			}
			checkTold(t, compOf("7"), answers, 7, 0, true)
			checkTold(t, compOf("a 1 1"), answers, 1, 1, true)
		}
	}
	// The deepest that there are: 29 asked on one way.
	for asks := range 30 {
		for many := range 62 {
			no, yes := slices.Repeat([]bool{false}, many), slices.Repeat([]bool{true}, many)
			if many < asks || many > 60 {
				checkTold(t, chainOf(2, asks), no, 0, 0, false)
				checkTold(t, nestOf(2, asks), yes, 0, 0, false)
			} else {
				checkTold(t, chainOf(2, asks), no, asks, asks, true)
				checkTold(t, nestOf(2, asks), yes, 0, asks, true)
			}
		}
	}
}

func TestRunCompDrawn(t *testing.T) {
	r := draw(904)
	enough := 0
	for range 10000 {
		c, answers := drawComp(&r), drawAnswers(&r, 12)
		n, left, ok := askingOf(c).askOn(answers, tellIt)
		asked := 0
		if ok {
			enough++
			asked = len(answers) - left
		}
		checkTold(t, c, answers, n, asked, ok)
	}
	if enough < 2000 || enough > 9000 {
		t.Errorf("%d of 10000 were enough", enough)
	}
}
