package tests

import (
	"slices"
	"testing"

	"loop.example/g00339/impl"
)

func TestHandleConstants(t *testing.T) {
	got := []int{impl.MaxComp, impl.Ops, impl.CompRet, impl.CompAsk, impl.RuleFirst, impl.RuleSecond, impl.RuleBoth, impl.RuleStop, impl.RulePass}
	if want := []int{60, 3, 1, 2, 1, 2, 3, 4, 5}; !slices.Equal(got, want) {
		t.Errorf("%v, want %v", got, want)
	}
}

func TestGoodComp(t *testing.T) {
	for _, text := range []string{"0", "1", "99", "a 0 0", "b 1 2", "c 99 0", "a a 1 2 3", "a 1 a 2 3", "a b 1 2 c 3 4", "c b a 1 2 3 4"} {
		if c := compOf(text); !impl.GoodComp(c) {
			t.Errorf("told not good: %s", text)
		}
	}
	for _, text := range []string{"", "a", "b 0", "a a", "a a 0 0", "a 0 a 0", "0 0", "0 a", "0 a 0 0", "a 0 0 0", "a 0 0 a 0 0", "100", "a 100 0", "a 0 100"} {
		if c := compOf(text); impl.GoodComp(c) {
			t.Errorf("told good: %s", text)
		}
	}
	if impl.GoodComp(nil) {
		t.Error("nil told good")
	}
}

func TestGoodCompCounts(t *testing.T) {
	for asks := range 40 {
		for op := range impl.Ops {
			for _, c := range [][]impl.Comp{chainOf(op, asks), nestOf(op, asks)} {
				if good := impl.GoodComp(c); good != (len(c) <= 60) {
					t.Errorf("%d cells: %v", len(c), good)
				}
				// One cell less ends too early, one more too late.
				for _, wrong := range [][]impl.Comp{c[:len(c)-1], append(slices.Clone(c), compOf("0")...), append(slices.Clone(c), compOf("a")...), append(compOf("0"), c...)} {
					if impl.GoodComp(wrong) {
						t.Errorf("told good: %s", compText(wrong))
					}
				}
			}
		}
	}
	for _, many := range []int{2, 59, 60, 61, 1000} {
		for _, cell := range []string{"0", "a"} {
			if impl.GoodComp(slices.Repeat(compOf(cell), many)) {
				t.Errorf("told good: %d times %s", many, cell)
			}
		}
	}
}

// goodCells tells whether a cell may stand in a computation, by the document's words.
func goodCells(cell impl.Comp) bool {
	return cell.Kind == 1 && cell.N >= 0 && cell.N <= 99 || cell.Kind == 2 && cell.N >= 0 && cell.N <= 2
}

func edgeCells() []impl.Comp {
	var out []impl.Comp
	for _, kind := range []int{-1 << 63, -2, -1, 0, 1, 2, 3, 4, 257, 258, 1<<63 - 1} {
		for _, n := range []int{-1 << 63, -100, -1, 0, 1, 2, 3, 98, 99, 100, 256, 1 << 32, 1<<63 - 1} {
			out = append(out, impl.Comp{Kind: kind, N: n})
		}
	}
	return out
}

func TestGoodCompCells(t *testing.T) {
	for _, cell := range edgeCells() {
		told := goodCells(cell) && cell.Kind == impl.CompRet
		asked := goodCells(cell) && cell.Kind == impl.CompAsk
		for _, one := range []struct {
			c    []impl.Comp
			want bool
		}{
			{[]impl.Comp{cell}, told},
			{askedOf(0, []impl.Comp{cell}, compOf("0")), told},
			{askedOf(2, compOf("0"), []impl.Comp{cell}), told},
			{append([]impl.Comp{cell}, compOf("1 2")...), asked},
			{append(slices.Concat(compOf("b a"), []impl.Comp{cell}), compOf("1 2 3 4")...), asked},
			{append(slices.Concat(compOf("b 7"), []impl.Comp{cell}), compOf("1 2")...), asked},
			{append(slices.Concat(nestOf(0, 0), []impl.Comp{cell}), compOf("1 2")...), false},
		} {
			if got := impl.GoodComp(one.c); got != one.want {
				t.Errorf("GoodComp(%v): %v, want %v", one.c, got, one.want)
			}
		}
	}
}

// plainGoodAhead reads one computation; false where there is none.
func plainGoodAhead(c []impl.Comp) ([]impl.Comp, bool) {
	if len(c) == 0 || !goodCells(c[0]) {
		return nil, false
	}
	rest, ok := c[1:], true
	for part := 0; ok && c[0].Kind == 2 && part < 2; part++ {
		rest, ok = plainGoodAhead(rest)
	}
	return rest, ok
}

func TestGoodCompOfAllShortLists(t *testing.T) {
	cells := []impl.Comp{{Kind: 1}, {Kind: 1, N: 99}, {Kind: 1, N: 100}, {Kind: 2}, {Kind: 2, N: 2}, {Kind: 2, N: 3}, {Kind: 0}, {Kind: 3}}
	lists := [][]impl.Comp{nil}
	for range 5 {
		var longer [][]impl.Comp
		for _, l := range lists {
			rest, is := plainGoodAhead(l)
			if got, want := impl.GoodComp(l), is && len(rest) == 0; got != want {
				t.Fatalf("GoodComp(%v): %v, want %v", l, got, want)
			}
			for _, cell := range cells {
				longer = append(longer, append(slices.Clone(l), cell))
			}
		}
		lists = longer
	}
}

func TestGoodHandler(t *testing.T) {
	for ret, want := range map[int]bool{-1 << 63: false, -100: false, -1: false, 0: true, 1: true, 99: true, 100: false, 101: false, 1<<63 - 1: false} {
		for _, rules := range []string{"0 P P P", "0 F S B", "0 0 99 P"} {
			h := handlerOf(rules)
			h.Ret = ret
			if got := impl.GoodHandler(h); got != want {
				t.Errorf("GoodHandler(%v): %v, want %v", h, got, want)
			}
		}
	}
	for many := range 10 {
		for _, word := range []string{"F", "S", "B", "P", "7"} {
			h := impl.Handler{Ret: 5, Rules: slices.Repeat([]impl.Rule{ruleOf(word)}, many)}
			if got := impl.GoodHandler(h); got != (many == 3) {
				t.Errorf("GoodHandler of %d rules %s: %v", many, word, got)
			}
		}
	}
	if impl.GoodHandler(impl.Handler{}) || impl.GoodHandler(impl.Handler{Rules: make([]impl.Rule, 3)}) || impl.GoodHandler(impl.Handler{Rules: make([]impl.Rule, 100000)}) {
		t.Error("zero rules told good")
	}
}

// goodRule tells whether a rule may stand in a handler, by the document's words.
func goodRule(r impl.Rule) bool {
	if r.Kind == impl.RuleStop {
		return r.N >= 0 && r.N <= 99
	}
	return r.Kind >= 1 && r.Kind <= 5 && r.N == 0
}

func edgeRules() []impl.Rule {
	var out []impl.Rule
	for _, kind := range []int{-1 << 63, -1, 0, 1, 2, 3, 4, 5, 6, 7, 257, 1 << 32, 1<<63 - 1} {
		for _, n := range []int{-1 << 63, -100, -1, 0, 1, 2, 5, 98, 99, 100, 256, 1 << 32, 1<<63 - 1} {
			out = append(out, impl.Rule{Kind: kind, N: n})
		}
	}
	return out
}

func TestGoodHandlerRules(t *testing.T) {
	for _, rule := range edgeRules() {
		for op := range impl.Ops {
			for _, text := range []string{"0 P P P", "99 F S B", "50 0 99 50"} {
				h := handlerOf(text)
				h.Rules[op] = rule
				if got := impl.GoodHandler(h); got != goodRule(rule) {
					t.Errorf("GoodHandler(%v): %v", h, got)
				}
			}
		}
	}
}
