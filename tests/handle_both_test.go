package tests

import (
	"slices"
	"testing"

	"loop.example/g00339/impl"
)

// plainAfter tells the rule of both by the document's words; false at RuleBoth of h.
func plainAfter(g, h impl.Handler, op int) (impl.Rule, bool) {
	switch rule := h.Rules[op]; rule.Kind {
	case impl.RuleFirst, impl.RuleSecond:
		return impl.Rule{Kind: rule.Kind}, true
	case impl.RulePass:
		return g.Rules[op], true
	case impl.RuleStop:
		return impl.Rule{Kind: impl.RuleStop, N: (rule.N + g.Ret) % 100}, true
	}
	return impl.Rule{}, false
}

func checkAfterAsPlain(t *testing.T, g, h impl.Handler) {
	t.Helper()
	want := impl.Handler{Ret: (g.Ret + h.Ret) % 100}
	for op := range impl.Ops {
		rule, ok := plainAfter(g, h, op)
		if !ok {
			checkAfter(t, g, h, impl.Handler{}, false)
			return
		}
		want.Rules = append(want.Rules, rule)
	}
	checkAfter(t, g, h, want, true)
}

func TestAfterBothByHand(t *testing.T) {
	for _, one := range [][3]string{
		{"3 P P P", "4 P P P", "7 P P P"},
		{"99 P P P", "1 P P P", "0 P P P"},
		{"99 P P P", "99 P P P", "98 P P P"},
		{"0 P P P", "99 P P P", "99 P P P"},
		{"99 P P P", "0 P P P", "99 P P P"},
		{"3 F S B", "4 P P P", "7 F S B"},
		{"3 B 8 P", "4 P P P", "7 B 8 P"},
		{"3 B 8 P", "4 F S F", "7 F S F"},
		{"3 B 8 P", "4 S F S", "7 S F S"},
		{"3 B 8 P", "4 0 96 97", "7 3 99 0"},
		{"99 B 8 F", "4 0 1 99", "3 99 0 98"},
		{"0 5 6 7", "4 0 1 99", "4 0 1 99"},
		{"50 5 6 99", "50 P 60 P", "0 5 10 99"},
		{"10 F 7 B", "1 S P 4", "11 S 7 14"},
	} {
		checkAfter(t, handlerOf(one[0]), handlerOf(one[1]), handlerOf(one[2]), true)
	}
	for _, h := range []string{"4 B P P", "4 P B P", "4 P P B", "4 F B S", "4 B B B", "0 7 7 B"} {
		for _, g := range []string{"3 P P P", "3 B B B", "3 F S 7", "0 7 7 7"} {
			checkAfter(t, handlerOf(g), handlerOf(h), impl.Handler{}, false)
		}
	}
}

func TestAfterBothOfAllKinds(t *testing.T) {
	for _, g := range allHandlers(60, "F", "S", "B", "P", "70") {
		for _, h := range allHandlers(50, "F", "S", "B", "P", "45") {
			checkAfterAsPlain(t, g, h)
		}
		if t.Failed() {
			return
		}
	}
	for ret := range 100 {
		for n := range 100 {
			g := impl.Handler{Ret: ret, Rules: handlerOf("0 P P P").Rules}
			h := impl.Handler{Ret: n, Rules: []impl.Rule{{Kind: impl.RuleStop, N: n}, {Kind: impl.RulePass}, {Kind: impl.RuleStop, N: 99 - n}}}
			checkAfterAsPlain(t, g, h)
		}
	}
}

func TestAfterBothOfNotGood(t *testing.T) {
	good := handlerOf("5 F 7 P")
	wrong := []impl.Handler{{}, {Rules: []impl.Rule{}}, {Rules: make([]impl.Rule, 3)}}
	for _, text := range []string{"-1 P P P", "100 P P P", "0", "0 P P", "0 P P P P", "0 -1 P P", "0 P 100 P", "0 P P -1"} {
		wrong = append(wrong, handlerOf(text))
	}
	for _, rule := range edgeRules() {
		for op := range impl.Ops {
			if h := handlerOf("0 P P P"); !goodRule(rule) {
				h.Rules[op] = rule
				wrong = append(wrong, h)
			}
		}
	}
	for _, h := range wrong {
		// A rule of g that no operation comes to is to be good, too.
		checkAfter(t, h, good, impl.Handler{}, false)
		checkAfter(t, h, handlerOf("5 F F F"), impl.Handler{}, false)
		checkAfter(t, good, h, impl.Handler{}, false)
		checkAfter(t, h, h, impl.Handler{}, false)
		checkAfter(t, h, handlerOf("5 B B B"), impl.Handler{}, false)
	}
}

// checkPromise9 holds one that answers for two against the two, one around the other.
func checkPromise9(t *testing.T, g, h impl.Handler, c []impl.Comp) bool {
	t.Helper()
	both, ok := impl.AfterBoth(g, h)
	if !ok || !impl.GoodHandler(both) {
		t.Fatalf("AfterBoth(%v, %v): %v %v", g, h, both, ok)
	}
	within, ok := impl.HandleComp(h, c)
	if !ok {
		t.Fatalf("without RuleBoth: HandleComp(%v, %s) is too great", h, compText(c))
	}
	want, is := impl.HandleComp(g, within)
	got, ok := impl.HandleComp(both, c)
	if ok != is || !slices.Equal(got, want) {
		t.Fatalf("%v around %v, with %s: %s %v, both at once: %s %v", g, h, compText(c), compText(want), is, compText(got), ok)
	}
	return ok
}

func TestPromise9OfAll(t *testing.T) {
	var comps [][]impl.Comp
	for asks := range 3 {
		for _, a := range askingsOf(asks) {
			comps = append(comps, a.comp())
		}
	}
	for _, g := range allHandlers(60, "F", "S", "B", "P", "70") {
		for _, h := range allHandlers(50, "F", "S", "P", "45") {
			for _, c := range comps {
				checkPromise9(t, g, h, c)
			}
		}
	}
}

func TestPromise9Drawn(t *testing.T) {
	r := draw(906)
	counts := map[bool]int{}
	for range 20000 {
		g, h, c := drawHandler(&r, 0), drawHandler(&r, impl.RuleBoth), drawComp(&r)
		counts[checkPromise9(t, g, h, c)]++
		checkAfterAsPlain(t, g, h)
	}
	// Three around each other are one in either order.
	for range 2000 {
		f, g, h := drawHandler(&r, 0), drawHandler(&r, impl.RuleBoth), drawHandler(&r, impl.RuleBoth)
		outer, _ := impl.AfterBoth(f, g)
		inner, _ := impl.AfterBoth(g, h)
		a, ok := impl.AfterBoth(outer, h)
		b, too := impl.AfterBoth(f, inner)
		if !ok || !too || !sameHandler(a, b) {
			t.Fatalf("%v, %v, %v: %v %v", f, g, h, a, b)
		}
	}
	if counts[true] < 5000 || counts[false] < 100 {
		t.Errorf("good or too great: %v", counts)
	}
}
