package tests

import (
	"slices"
	"testing"

	"loop.example/g00339/impl"
)

func wrongComps() [][]impl.Comp {
	out := [][]impl.Comp{
		nil, {}, compOf("a"), compOf("a 1"), compOf("1 2"), compOf("a 1 2 3"), compOf("100"), chainOf(0, 30), nestOf(0, 30),
		make([]impl.Comp, 1), make([]impl.Comp, 60), make([]impl.Comp, 100000), slices.Repeat(compOf("a"), 60), slices.Repeat(compOf("a"), 100000), slices.Repeat(compOf("0"), 100000), chainOf(1, 100000),
	}
	for _, cell := range edgeCells() {
		if !goodCells(cell) {
			out = append(out, []impl.Comp{cell}, append(compOf("a 1"), cell), append([]impl.Comp{cell}, compOf("1 2")...))
		}
	}
	return out
}

func wrongHandlers() []impl.Handler {
	const most, least = 1<<63 - 1, -1 << 63
	out := []impl.Handler{
		{}, {Rules: []impl.Rule{}}, {Ret: 5}, {Rules: make([]impl.Rule, 3)}, {Rules: make([]impl.Rule, 100000)}, {Rules: slices.Repeat([]impl.Rule{ruleOf("P")}, 100000)},
		{Ret: most, Rules: handlerOf("0 P P P").Rules}, {Ret: least, Rules: handlerOf("0 P P P").Rules},
		handlerOf("-1 P P P"), handlerOf("100 P P P"), handlerOf("0 P P"), handlerOf("0 P P P P"),
	}
	for _, rule := range edgeRules() {
		if !goodRule(rule) {
			out = append(out, impl.Handler{Rules: []impl.Rule{rule, ruleOf("P"), ruleOf("P")}}, impl.Handler{Rules: []impl.Rule{ruleOf("F"), ruleOf("B"), rule}})
		}
	}
	return out
}

func TestWrongComputations(t *testing.T) {
	for _, c := range wrongComps() {
		kept := slices.Clone(c)
		if impl.GoodComp(c) {
			t.Errorf("told good: %s", compText(c))
		}
		for _, text := range []string{"0 P P P", "7 B B B", "0 1 2 3", "5 F S F"} {
			if got, ok := impl.HandleComp(handlerOf(text), c); len(got) > 0 || ok {
				t.Errorf("HandleComp(%s, %s): %v %v", text, compText(c), got, ok)
			}
		}
		for _, by := range []int{-1 << 63, -1, 0, 1, 99, 100, 1<<63 - 1} {
			if got, ok := impl.MapComp(c, by); len(got) > 0 || ok {
				t.Errorf("MapComp(%s, %d): %v %v", compText(c), by, got, ok)
			}
		}
		if got, ok := impl.ResultsOf(c); len(got) > 0 || ok {
			t.Errorf("ResultsOf(%s): %v %v", compText(c), got, ok)
		}
		for _, many := range []int{0, 1, 60, 61, 100000} {
			if n, asked, ok := impl.RunComp(c, make([]bool, many)); n != 0 || asked != 0 || ok {
				t.Errorf("RunComp(%s, %d answers): %d %d %v", compText(c), many, n, asked, ok)
			}
		}
		for _, l := range [][][]impl.Comp{nil, {}, tellers(), slices.Repeat([][]impl.Comp{c}, 100), make([][]impl.Comp, 100)} {
			if got, ok := impl.ThenComp(c, l); len(got) > 0 || ok {
				t.Errorf("ThenComp(%s, %d of them): %v %v", compText(c), len(l), got, ok)
			}
		}
		for _, place := range []int{0, 42, 99} {
			l := tellers()
			l[place] = c
			if got, ok := impl.ThenComp(compOf("5"), l); len(got) > 0 || ok {
				t.Errorf("ThenComp with %s at %d: %v %v", compText(c), place, got, ok)
			}
		}
		if !slices.Equal(c, kept) {
			t.Errorf("changed: %s, was %s", compText(c), compText(kept))
		}
	}
	for _, many := range []int{0, 99, 101, 100000} {
		checkThen(t, compOf("0"), slices.Repeat([][]impl.Comp{compOf("0")}, many), nil, false)
		checkThen(t, compOf("0"), make([][]impl.Comp, many), nil, false)
	}
	checkThen(t, compOf("0"), make([][]impl.Comp, 100), nil, false)
}

func TestWrongHandlers(t *testing.T) {
	for _, h := range wrongHandlers() {
		if impl.GoodHandler(h) {
			t.Errorf("told good: %v", h)
		}
		for _, c := range [][]impl.Comp{nil, compOf("0"), compOf("a 1 2"), compOf("b 1 2"), compOf("c 1 2"), compOf("a"), chainOf(0, 29)} {
			checkHandled(t, h, c, nil, false)
		}
		for _, text := range []string{"0 P P P", "7 B B B", "0 1 2 3", "5 F S F"} {
			checkAfter(t, h, handlerOf(text), impl.Handler{}, false)
			checkAfter(t, handlerOf(text), h, impl.Handler{}, false)
		}
		checkAfter(t, h, h, impl.Handler{}, false)
		checkAfter(t, h, impl.Handler{}, impl.Handler{}, false)
	}
}

// TestOperationsBehindTheLength: what lies behind a list's length is neither read, nor written, nor handed out.
func TestOperationsBehindTheLength(t *testing.T) {
	junk := []impl.Comp{{Kind: impl.CompRet, N: 7}, {Kind: 9, N: -9}}
	junkRules := []impl.Rule{{Kind: impl.RulePass}, {Kind: -5, N: 5}}
	r := draw(907)
	for range 1000 {
		c, g, h := drawComp(&r), drawHandler(&r, 0), drawHandler(&r, 0)
		answers := drawAnswers(&r, 20)
		l := tellers()
		for k := range l {
			l[k] = drawAsking(&r, r.below(5)).comp()
		}
		long, longAnswers := withMore(c, junk...), withMore(answers, true, false)
		longG, longH := impl.Handler{Ret: g.Ret, Rules: withMore(g.Rules, junkRules...)}, impl.Handler{Ret: h.Ret, Rules: withMore(h.Rules, junkRules...)}
		longList := withMore(l, junk, nil)
		for k := range longList {
			longList[k] = withMore(longList[k], junk...)
		}
		checkAsPlain(t, longH, long)
		checkAfterAsPlain(t, longG, longH)
		checkResults(t, long, askingOf(c).told(), true)
		checkMapped(t, long, g.Ret, askingOf(c).more(g.Ret).comp(), true)
		n, left, ok := askingOf(c).askOn(answers, tellIt)
		asked := 0
		if ok {
			asked = len(answers) - left
		}
		checkTold(t, long, longAnswers, n, asked, ok)
		if want := askingOf(c).then(func(n int) *asking { return askingOf(l[n]) }); want.isSmall() {
			checkThen(t, long, longList, want.comp(), true)
		} else {
			checkThen(t, long, longList, nil, false)
		}
		written := !slices.Equal(behind(long, 2), junk) || !slices.Equal(behind(longAnswers, 2), []bool{true, false}) || !slices.Equal(behind(longG.Rules, 2), junkRules) || !slices.Equal(behind(longH.Rules, 2), junkRules)
		for _, one := range longList {
			written = written || !slices.Equal(behind(one, 2), junk)
		}
		if more := behind(longList, 2); written || !slices.Equal(more[0], junk) || more[1] != nil {
			t.Fatal("written behind a list's length")
		}
	}
	// What would be good with what lies behind it, is not.
	for _, short := range []string{"a", "a 1", ""} {
		c := withMore(compOf(short), compOf("1 2 3")...)
		if impl.GoodComp(c) {
			t.Errorf("told good: %s", short)
		}
	}
	if h := handlerOf("0 P P P"); impl.GoodHandler(impl.Handler{Rules: h.Rules[:2]}) {
		t.Error("two rules told good")
	}
	checkTold(t, compOf("a 1 2"), withMore([]bool{}, true), 0, 0, false)
	checkThen(t, compOf("0"), tellers()[:99], nil, false)
}

func scribbleComps(c []impl.Comp) {
	c = c[:cap(c)]
	for k := range c {
		c[k] = impl.Comp{Kind: -7, N: -7}
	}
}

// TestOperationsAnswersOfTheirOwn writes into each list of an answer, as far as its memory goes: no argument may change, and what was told is told again.
func TestOperationsAnswersOfTheirOwn(t *testing.T) {
	r := draw(908)
	for range 500 {
		c, g, h := drawComp(&r), drawHandler(&r, 0), drawHandler(&r, 0)
		if r.below(2) == 0 {
			h = handlerOf("0 P P P")
		}
		l := tellers()
		for k := range l {
			l[k] = drawAsking(&r, r.below(5)).comp()
		}
		kept, keptG, keptH, keptList := slices.Clone(c), cloneHandler(g), cloneHandler(h), cloneComps(l)
		for range 2 {
			checkAsPlain(t, h, c)
			checkAfterAsPlain(t, g, h)
			checkResults(t, c, askingOf(c).told(), true)
			checkMapped(t, c, 0, c, true)
			handled, _ := impl.HandleComp(h, c)
			scribbleComps(handled)
			mapped, _ := impl.MapComp(c, 0)
			scribbleComps(mapped)
			then, _ := impl.ThenComp(c, l)
			scribbleComps(then)
			alone, _ := impl.ThenComp(compOf("5"), l)
			if !slices.Equal(alone, l[5]) {
				t.Fatalf("%s, want %s", compText(alone), compText(l[5]))
			}
			scribbleComps(alone)
			results, _ := impl.ResultsOf(c)
			for k := range results[:cap(results)] {
				results[:cap(results)][k] = -7
			}
			both, _ := impl.AfterBoth(g, h)
			for k := range both.Rules[:cap(both.Rules)] {
				both.Rules[:cap(both.Rules)][k] = impl.Rule{Kind: -7, N: -7}
			}
			if !slices.Equal(c, kept) || !sameHandler(g, keptG) || !sameHandler(h, keptH) || !slices.EqualFunc(l, keptList, slices.Equal) {
				t.Fatalf("an answer shares memory with %s, %v, %v or one of the list", compText(kept), keptG, keptH)
			}
		}
	}
}
