package tests

import (
	"fmt"
	"maps"
	"slices"
	"testing"

	"loop.example/g00339/impl"
)

func checkLeads(t *testing.T, l, u []impl.Cell, want, is bool) {
	t.Helper()
	got, ok := impl.LeadsTo(l, u)
	if got != want || ok != is {
		t.Errorf("LeadsTo(%q, %q): %v %v, want %v %v", textOf(l), textOf(u), got, ok, want, is)
	}
}

func checkDevelop(t *testing.T, text string, want string) {
	t.Helper()
	got, ok := impl.DevelopTerm(termOf(text))
	sameTerm(t, fmt.Sprintf("DevelopTerm(%q)", text), got, ok, termOf(want), want != "")
	if want != "" {
		checkLeads(t, termOf(text), termOf(want), true, true)
	}
}

// meets holds promise 4 at l: all that choices of its redexes make leads on to what all of them make; it tells whether there was room.
func meets(t *testing.T, l []impl.Cell) bool {
	t.Helper()
	led, room := plainLedTo(l)
	checkLeads(t, l, l, room, room)
	developed, ok := impl.DevelopTerm(l)
	want, is := plainDevelop(l)
	sameTerm(t, fmt.Sprintf("DevelopTerm(%q)", textOf(l)), developed, ok, want, is)
	if !room || !ok {
		return false
	}
	checkLeads(t, l, developed, true, true)
	steps, _ := impl.StepsOf(l)
	for _, u := range steps {
		checkLeads(t, l, u, true, true)
	}
	for _, u := range led {
		if !impl.GoodTerm(u) {
			continue
		}
		checkLeads(t, l, u, true, true)
		if on, ok := impl.LeadsTo(u, developed); !on && ok {
			t.Errorf("from %q: %q does not lead to %q", textOf(l), textOf(u), textOf(developed))
		}
	}
	return true
}

func TestAllWaysMeet(t *testing.T) {
	had := 0
	terms := reduceTerms(5500)
	for _, l := range terms {
		if meets(t, l) {
			had++
		}
	}
	if had < len(terms)*9/10 {
		t.Error("few had room:", had)
	}
}

// TestLeadsToNoMore holds that what only further redexes make is not led to.
func TestLeadsToNoMore(t *testing.T) {
	further := 0
	others := upToCells(3, 2)
	for i, l := range reduceTerms(4500) {
		led, room := plainLedTo(l)
		if !room {
			continue
		}
		asked := slices.Collect(maps.Values(led))
		for _, u := range led {
			if impl.GoodTerm(u) {
				steps, _ := impl.StepsOf(u)
				asked = append(asked, steps...)
			}
		}
		for _, u := range append(asked, others[i%len(others)]) {
			if !impl.GoodTerm(u) {
				continue
			}
			_, is := led[textOf(u)]
			checkLeads(t, l, u, is, true)
			if !is {
				further++
			}
		}
	}
	if further < 3000 {
		t.Error("few go further:", further)
	}
}

func TestDevelopByHand(t *testing.T) {
	checkDevelop(t, "@ \\ + v0 v0 + 1 2", "+ 3 3")
	checkDevelop(t, "+ + 1 2 3", "+ 3 3")
	checkDevelop(t, "+ + 1 2 + 3 4", "+ 3 7")
	checkDevelop(t, "? + 0 0 + 1 2 + 3 4", "? 0 3 7")
	checkDevelop(t, "? 0 + 1 2 + 3 4", "3")
	checkDevelop(t, "? 5 + 1 2 + 3 4", "7")
	checkDevelop(t, "@ @ \\ \\ v1 1 2", "@ \\ 1 2")
	checkDevelop(t, "@ \\ @ v0 + 1 1 \\ @ \\ v0 v0", "@ \\ v0 2")
	checkDevelop(t, "= \\ v0 @ v0 5", "@ \\ v0 5")
	checkDevelop(t, "= = 1 v0 = v0 + v0 v1", "+ 1 1")
	checkDevelop(t, "\\ @ \\ \\ @ v1 v2 v0", "\\ \\ @ v1 v1")
	checkDevelop(t, "@ \\ @ v0 v0 \\ @ v0 v0", "@ \\ @ v0 v0 \\ @ v0 v0")
	checkDevelop(t, "? 0 ? v0 1 2 3", "? v0 1 2")
	checkDevelop(t, "+ 1000000 1", "+ 1000000 1")
	checkDevelop(t, "+ 999999 1", "1000000")
	checkDevelop(t, "= + 1 2 ? v0 5 6", "? 3 5 6")
	checkDevelop(t, "v9", "v9")
}

func TestLeadsByHand(t *testing.T) {
	for _, row := range []struct {
		from, to string
		want     bool
	}{
		{"@ \\ + v0 v0 + 1 2", "+ + 1 2 + 1 2", true},
		{"@ \\ + v0 v0 + 1 2", "+ 3 3", true},
		{"@ \\ + v0 v0 + 1 2", "+ 3 + 1 2", false},
		{"@ \\ + v0 v0 + 1 2", "+ + 1 2 3", false},
		{"@ \\ + v0 v0 + 1 2", "6", false},
		{"@ @ \\ \\ v1 1 2", "1", false},
		{"@ @ \\ \\ v1 1 2", "@ \\ 1 2", true},
		{"? + 0 0 1 2", "1", false},
		{"? 0 1 2", "2", false},
		{"? 0 1 + 1 1", "? 0 1 2", true},
		{"+ + 1 2 3", "6", false},
		{"+ 1000000 1", "1000001", false},
		{"v0", "v1", false},
		{"\\ v0", "v0", false},
		{"\\ + 1 1", "\\ 2", true},
		{"\\ + 1 1", "2", false},
	} {
		l, u := termOf(row.from), termOf(row.to)
		checkLeads(t, l, u, row.want, impl.GoodTerm(u))
		checkLeads(t, u, l, false, impl.GoodTerm(u))
	}
}

// TestVariablesThatComeBack holds that a variable beyond the bound counts only in what is told in the end.
func TestVariablesThatComeBack(t *testing.T) {
	checkDevelop(t, "@ \\ @ \\ \\ v1 v99 5", "\\ v99")
	checkDevelop(t, "? 0 1 @ \\ \\ v1 v99", "1")
	checkDevelop(t, "@ \\ 1 = v99 \\ v1", "1")
	checkDevelop(t, "@ \\ \\ v1 v98", "\\ v99")
	checkDevelop(t, "@ \\ \\ v1 v99", "")
	checkDevelop(t, "\\ = v99 = v0 v1", "\\ v99")
	checkLeads(t, termOf("@ \\ \\ v1 v99"), termOf("@ \\ \\ v1 v99"), true, true)
	checkLeads(t, termOf("@ \\ \\ v1 v99"), termOf("\\ v99"), false, true)
}

// roomFor holds whether l develops, and leads to itself and to u.
func roomFor(t *testing.T, what string, l, u []impl.Cell, is bool) {
	t.Helper()
	got, ok := impl.DevelopTerm(l)
	if !is {
		sameTerm(t, what, got, ok, nil, false)
	} else {
		sameTerm(t, what, got, ok, u, true)
	}
	if len(l) > 600 || len(u) > 600 {
		return
	}
	checkLeads(t, l, l, is, is)
	checkLeads(t, l, u, is, is)
}

func TestDevelopRoom(t *testing.T) {
	twice := func(cells int) []impl.Cell {
		return slices.Concat(termOf("+"), stuckTerm(cells), stuckTerm(cells))
	}
	for ahead := range 4 {
		roomFor(t, "whole", lams(ahead, doubled(299)...), lams(ahead, twice(299)...), ahead <= 1)
		// All at once are longer than each one alone.
		both := slices.Concat(termOf("+"), doubled(149), doubled(149))
		roomFor(t, "both", lams(ahead, both...), lams(ahead, slices.Concat(termOf("+"), twice(149), twice(149))...), ahead <= 1)
		// What is left away must have had room.
		away := lams(ahead, doubled(297)...)
		roomFor(t, "TmIf", slices.Concat(termOf("? 0 1"), away), termOf("1"), ahead <= 2)
		roomFor(t, "TmIf, in front", slices.Concat(termOf("? 3"), away, termOf("1")), termOf("1"), ahead <= 2)
		roomFor(t, "TmApp", slices.Concat(termOf("@ \\ 1"), away), termOf("1"), ahead <= 2)
		roomFor(t, "TmLet", slices.Concat(termOf("="), away, termOf("\\ 1")), termOf("\\ 1"), ahead <= 2)
		// What is led to counts as a whole, what is developed by its parts.
		inner := slices.Concat(termOf("\\ @ v0 ? 0 1"), away)
		got, ok := impl.DevelopTerm(inner)
		if ahead > 2 {
			sameTerm(t, "further in", got, ok, nil, false)
		} else {
			sameTerm(t, "further in", got, ok, termOf("\\ @ v0 1"), true)
		}
		checkLeads(t, inner, inner, false, false)
	}
	roomFor(t, "far beyond", slices.Concat(termOf("? 0 1"), doubled(500)), termOf("1"), false)
	long := append(lams(1), stuckTerm(599)...)
	roomFor(t, "of MaxTerm cells", long, long, true)
	long = append(lams(1), stuckTerm(597)...)
	roomFor(t, "a redex of MaxTerm cells", append(termOf("= 1"), long...), long, true)
}

// TestDevelopNestedDoubles holds that what would grow without end is refused early.
func TestDevelopNestedDoubles(t *testing.T) {
	var fronts []impl.Cell
	for range 60 {
		fronts = append(fronts, termOf("@ \\ + v0 v0")...)
	}
	l := append(fronts, tmNum(1))
	got, ok := impl.DevelopTerm(l)
	sameTerm(t, "nested", got, ok, nil, false)
	checkLeads(t, l, l, false, false)
	got, ok = impl.DevelopTerm(append(fronts[:8*5:8*5], tmNum(1)))
	if len(got) != 511 || !ok {
		t.Error(len(got), ok)
	}
	got, ok = impl.DevelopTerm(append(fronts[:9*5:9*5], tmNum(1)))
	sameTerm(t, "nine", got, ok, nil, false)
}

func TestTwoHundredAreLedTo(t *testing.T) {
	one := tmNum(1)
	down := func(n int) []impl.Cell { return wayDown(n, one) }
	for _, row := range []struct {
		l  []impl.Cell
		is bool
	}{
		{down(199), true},
		{down(200), false},
		{down(299), false},
		{append(lams(9), down(199)...), true},
		{append(lams(9), down(200)...), false},
		{append(termOf("@ v0"), down(200)...), false},
		{slices.Concat(termOf("?"), down(200), termOf("1 2")), false},
		{slices.Concat(termOf("@"), down(7), down(24)), true},
		{slices.Concat(termOf("@"), down(2), down(66)), false},
		{slices.Concat(termOf("+"), down(7), down(24)), true},
		{slices.Concat(termOf("? v0"), down(9), down(19)), true},
		{slices.Concat(termOf("?"), down(4), down(4), down(7)), true},
		{slices.Concat(termOf("?"), down(2), down(66), termOf("1")), false},
		// A redex whose contractions are all the same term adds one.
		{slices.Concat(termOf("? 0 1"), down(198)), true},
		{slices.Concat(termOf("? 0 1"), down(199)), false},
		{slices.Concat(termOf("? 0"), down(99), termOf("2")), true},
		{slices.Concat(termOf("? 0"), down(100), termOf("2")), false},
		{slices.Concat(termOf("@ \\ 2"), down(198)), true},
		{slices.Concat(termOf("@ \\ 2"), down(199)), false},
		{append(slices.Repeat(termOf("@ + 1 1"), 8), one), false},
	} {
		checkLeads(t, row.l, row.l, row.is, row.is)
	}
	for _, n := range []int{0, 1, 100, 198, 199} {
		checkLeads(t, down(199), down(n), true, true)
	}
	checkLeads(t, down(199), down(200), false, true)
	checkLeads(t, down(200), down(3), false, false)
	checkLeads(t, append(slices.Repeat(termOf("@ + 1 1"), 7), one), append(slices.Repeat(termOf("@ 2"), 7), one), true, true)
}
