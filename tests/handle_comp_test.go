package tests

import (
	"slices"
	"testing"

	"loop.example/g00339/impl"
)

func TestHandleCompByHand(t *testing.T) {
	for _, one := range [][3]string{
		{"10 P P P", "5", "15"},
		{"0 F S B", "99", "99"},
		{"1 F S B", "99", "0"},
		{"99 F S B", "99", "98"},
		// Each kind of rule, with each operation.
		{"10 F 7 7", "a 1 2", "11"},
		{"10 7 F 7", "b 1 2", "11"},
		{"10 7 7 F", "c 1 2", "11"},
		{"10 S 7 7", "a 1 2", "12"},
		{"10 7 S 7", "b 1 2", "12"},
		{"10 7 7 S", "c 1 2", "12"},
		{"10 B 7 7", "a 1 2", "23"},
		{"10 7 B 7", "b 1 2", "23"},
		{"10 7 7 B", "c 1 2", "23"},
		{"10 7 P P", "a 1 2", "7"},
		{"10 P 0 P", "b 1 2", "0"},
		{"10 P P 99", "c 1 2", "99"},
		{"10 P 7 7", "a 1 2", "a 11 12"},
		{"10 7 P 7", "b 1 2", "b 11 12"},
		{"10 7 7 P", "c 1 2", "c 11 12"},
		// What is gone on with is handled, too.
		{"10 F S P", "a b 1 2 3", "12"},
		{"10 S F P", "a 1 b 2 3", "12"},
		{"10 S P P", "a 1 a 2 b 3 4", "b 13 14"},
		{"10 P F S", "a b 1 2 c 3 4", "a 11 14"},
		{"10 P 5 P", "a b 1 2 c 3 b 4 5", "a 5 c 13 5"},
		{"10 5 P P", "a b 1 2 c 3 4", "5"},
		{"10 P P P", "a b 1 2 c 3 99", "a b 11 12 c 13 9"},
		// RuleBoth asks what the first asks ahead of what the second asks.
		{"0 B P P", "a b 1 2 c 3 4", "b c 4 5 c 5 6"},
		{"0 B P P", "a b 1 2 3", "b 4 5"},
		{"0 B P P", "a 1 b 2 3", "b 3 4"},
		{"0 B P P", "a b 1 c 2 3 b 4 5", "b b 5 6 c b 6 7 b 7 8"},
		{"10 B P P", "a b 1 2 c 3 4", "b c 24 25 c 25 26"},
		{"99 B P P", "a 99 99", "96"},
		{"0 B P P", "a 50 b 50 49", "b 0 99"},
		// What is told at once is told to the RuleBoth around it.
		{"10 B 7 P", "a b 1 2 3", "20"},
		{"10 B 7 P", "a 1 b 2 3", "18"},
		{"10 B 7 P", "a b 1 2 b 3 4", "14"},
		{"10 B 99 P", "a c 1 b 2 3 4", "c 25 13"},
		// RuleBoth within RuleBoth.
		{"10 B P P", "a a 1 2 3", "36"},
		{"10 B P P", "a 1 a 2 3", "36"},
		{"10 B P P", "a a 1 2 a 3 4", "50"},
		{"0 B P P", "a a b 1 2 c 3 4 b 5 6", "b c b 9 10 b 10 11 c b 10 11 b 11 12"},
		{"0 B P P", "a b 1 2 a c 3 4 b 5 6", "b c b 9 10 b 10 11 c b 10 11 b 11 12"},
		{"0 B B P", "a b c 1 2 3 b 4 c 5 6", "c c 13 14 c 14 15"},
		{"0 B P P", "a b a 1 2 3 4", "b 7 7"},
		{"0 B P P", "a 4 b 3 a 1 2", "b 7 7"},
		// RuleBoth behind RuleFirst and RuleSecond, and these behind it.
		{"10 B F P", "b a 1 2 3", "23"},
		{"10 B S P", "b a 1 2 3", "13"},
		{"10 B S P", "b 3 a 1 2", "23"},
		{"10 B F P", "b 3 a 1 2", "13"},
		{"10 B F P", "a b 1 2 b 3 4", "24"},
		{"10 B F S", "a b 1 2 c 3 4", "25"},
	} {
		checkHandled(t, handlerOf(one[0]), compOf(one[1]), compOf(one[2]), true)
	}
}

func TestHandleCompOfNotGood(t *testing.T) {
	good := handlerOf("10 B F P")
	for _, text := range []string{"", "a", "a 1", "1 2", "a 1 2 3", "100", "a 1 100", "b 1", "b 1 100", "b 1 a"} {
		checkHandled(t, good, compOf(text), nil, false)
	}
	for _, cell := range edgeCells() {
		if !goodCells(cell) {
			// What is not gone on with is to be good, too.
			checkHandled(t, good, []impl.Comp{cell}, nil, false)
			checkHandled(t, good, append([]impl.Comp{cell}, compOf("1 2")...), nil, false)
			checkHandled(t, good, append(compOf("b 1"), cell), nil, false)
			checkHandled(t, handlerOf("0 7 7 7"), append(compOf("a 1"), cell), nil, false)
		}
	}
	for _, c := range [][]impl.Comp{chainOf(0, 30), nestOf(0, 30), chainOf(1, 30), nestOf(1, 30)} {
		checkHandled(t, good, c, nil, false)
		checkHandled(t, handlerOf("0 7 7 7"), c, nil, false)
	}
	for _, text := range []string{"-1 P P P", "100 P P P", "0", "0 P P", "0 P P P P", "0 -1 P P", "0 P 100 P", "0 P P -1"} {
		checkHandled(t, handlerOf(text), compOf("1"), nil, false)
		checkHandled(t, handlerOf(text), compOf("a 1 2"), nil, false)
	}
	for _, rule := range edgeRules() {
		if goodRule(rule) {
			continue
		}
		for op := range impl.Ops {
			// A rule that is not asked for is to be good, too.
			h := handlerOf("0 P P P")
			h.Rules[op] = rule
			checkHandled(t, h, compOf("1"), nil, false)
			checkHandled(t, h, compOf("a b c 1 2 3 4"), nil, false)
		}
	}
}

// TestHandleCompRoom: the numbers told add up at RulePass and are multiplied at RuleBoth; with n of them there are 2n-1 cells, so that 30 are the most.
func TestHandleCompRoom(t *testing.T) {
	met, passed := false, false
	for x := 1; x < 29; x++ {
		for y := 1; x+y < 30; y++ {
			for z := 1; x+y+z <= 30; z++ {
				c := askedOf(1, nestOf(2, x-1), askedOf(0, chainOf(2, y-1), nestOf(2, z-1)))
				told := x + y*z
				met, passed = met || told == 30, passed || told == 31
				for text, can := range map[string]bool{"0 B P P": told <= 30, "0 B F P": true, "0 B S P": y*z <= 30, "0 B 7 P": true, "0 B B P": x*y*z <= 30} {
					h := handlerOf(text)
					if _, ok := impl.HandleComp(h, c); ok != can {
						t.Fatalf("%s handles %d and %d times %d told: %v", text, x, y, z, ok)
					}
					if told < 40 {
						checkAsPlain(t, h, c)
					}
				}
			}
		}
	}
	if !met || !passed {
		t.Error("the bound was not met")
	}
	for _, cells := range []struct {
		c    []impl.Comp
		want int
	}{
		{askedOf(0, nestOf(1, 14), compOf("c 1 2")), 59},
		{askedOf(0, compOf("c 1 2"), nestOf(1, 14)), 59},
		{askedOf(0, nestOf(1, 4), chainOf(2, 5)), 59},
		{askedOf(1, compOf("0"), askedOf(0, nestOf(1, 4), chainOf(2, 5))), 0},
		{askedOf(1, askedOf(0, nestOf(1, 4), chainOf(2, 5)), compOf("0")), 0},
		{askedOf(1, compOf("c 1 2"), askedOf(0, nestOf(1, 3), chainOf(2, 6))), 59},
		{askedOf(1, compOf("c 1 b 2 3"), askedOf(0, nestOf(1, 3), chainOf(2, 6))), 0},
		{askedOf(0, nestOf(1, 15), compOf("c 1 2")), 0},
		{askedOf(0, nestOf(1, 27), compOf("1")), 55},
		{askedOf(0, compOf("1"), nestOf(1, 27)), 55},
		{nestOf(1, 29), 59},
		{chainOf(1, 29), 59},
		{nestOf(0, 29), 1},
		{chainOf(0, 29), 1},
		{askedOf(0, nestOf(1, 13), chainOf(1, 14)), 0},
	} {
		got, ok := impl.HandleComp(handlerOf("3 B P P"), cells.c)
		if len(got) != cells.want || ok != (cells.want > 0) {
			t.Errorf("%s: %d cells, %v, want %d", compText(cells.c), len(got), ok, cells.want)
		}
		checkAsPlain(t, handlerOf("3 B P P"), cells.c)
	}
}

// TestHandleCompOfGreatParts: a part that becomes too great counts where it stays, and there alone.
func TestHandleCompOfGreatParts(t *testing.T) {
	great := askedOf(0, nestOf(2, 5), chainOf(2, 5))
	checkHandled(t, handlerOf("1 B P P"), great, nil, false)
	for _, one := range []struct {
		rule, ahead, behind string
	}{
		{"F", "", "1"}, {"S", "1", ""}, {"7", "7", "7"}, {"P", "", ""}, {"B", "", ""},
	} {
		h := handlerOf("1 B " + one.rule + " P")
		for _, place := range []struct {
			c    []impl.Comp
			want string
		}{
			{askedOf(1, great, compOf("0")), one.ahead}, {askedOf(1, compOf("0"), great), one.behind},
		} {
			c, want := place.c, place.want
			checkHandled(t, h, c, compOf(want), want != "")
			for _, around := range []func([]impl.Comp) []impl.Comp{
				func(in []impl.Comp) []impl.Comp { return askedOf(2, in, compOf("4")) },
				func(in []impl.Comp) []impl.Comp { return askedOf(2, compOf("4"), in) },
				func(in []impl.Comp) []impl.Comp { return askedOf(0, in, compOf("4")) },
				func(in []impl.Comp) []impl.Comp { return askedOf(0, compOf("4"), in) },
				func(in []impl.Comp) []impl.Comp { return askedOf(1, in, compOf("4")) },
				func(in []impl.Comp) []impl.Comp { return askedOf(1, compOf("4"), in) },
			} {
				checkAsPlain(t, h, around(c))
			}
			// Behind RuleBoth, and behind RulePass, what does not stay does no harm.
			if want != "" {
				n := numbersOf(want)[0]
				checkHandled(t, h, askedOf(0, c, compOf("4")), []impl.Comp{{Kind: impl.CompRet, N: n + 5}}, true)
				checkHandled(t, h, askedOf(2, compOf("4"), c), append(compOf("c 5"), impl.Comp{Kind: impl.CompRet, N: n}), true)
			} else {
				checkHandled(t, h, askedOf(0, c, compOf("4")), nil, false)
				checkHandled(t, h, askedOf(0, compOf("4"), c), nil, false)
				checkHandled(t, h, askedOf(2, c, compOf("4")), nil, false)
				checkHandled(t, h, askedOf(2, compOf("4"), c), nil, false)
			}
		}
	}
	// The most that may be multiplied: 28 asked by RuleBoth, each of two.
	for _, c := range [][]impl.Comp{nestOf(0, 29), chainOf(0, 29)} {
		checkAsPlain(t, handlerOf("9 B P P"), c)
	}
	twos := slices.Concat(slices.Repeat(compOf("a"), 14), slices.Repeat(compOf("b 1 2"), 15))
	checkHandled(t, handlerOf("9 B P P"), twos, nil, false)
	checkHandled(t, handlerOf("9 S P P"), twos, compOf("b 10 11"), true)
}

func TestHandleCompOfAll(t *testing.T) {
	var comps []*asking
	for asks := range 4 {
		comps = append(comps, askingsOf(asks)...)
	}
	var answers [][]bool
	for many := range 5 {
		answers = append(answers, allAnswers(many)...)
	}
	for _, h := range allHandlers(30, "F", "S", "B", "P", "95") {
		for _, a := range comps {
			checkAsPlain(t, h, a.comp())
			got, _ := impl.HandleComp(h, a.comp())
			for _, l := range answers {
				checkToldWith(t, h, a, got, l)
			}
		}
		if t.Failed() {
			return
		}
	}
}

// checkToldWith holds what is told of c, which a became with h around it, against what is told by doing it.
func checkToldWith(t *testing.T, h impl.Handler, a *asking, c []impl.Comp, answers []bool) {
	t.Helper()
	n, left, is := a.handOn(h, answers, tellIt)
	asked := 0
	if is {
		asked = len(answers) - left
	}
	if gotN, gotAsked, ok := impl.RunComp(c, answers); gotN != n || gotAsked != asked || ok != is {
		t.Errorf("%s, handled by %v, with %v: %d %d %v, want %d %d %v", compText(a.comp()), h, answers, gotN, gotAsked, ok, n, asked, is)
	}
}

func TestHandleCompDrawn(t *testing.T) {
	r := draw(905)
	counts := map[bool]int{}
	for range 20000 {
		h, c := drawHandler(&r, 0), drawComp(&r)
		checkAsPlain(t, h, c)
		got, ok := impl.HandleComp(h, c)
		counts[ok]++
		if !ok {
			continue
		}
		if !impl.GoodComp(got) {
			t.Fatalf("not good: %s", compText(got))
		}
		for range 3 {
			checkToldWith(t, h, askingOf(c), got, drawAnswers(&r, 20))
		}
	}
	if counts[false] < 500 || counts[true] < 5000 {
		t.Errorf("too great or not: %v", counts)
	}
}
