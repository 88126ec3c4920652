package tests

import (
	"slices"
	"testing"

	"loop.example/g00339/impl"
)

func TestWrongExpressions(t *testing.T) {
	for _, e := range wrongExprs() {
		kept := slices.Clone(e)
		if impl.GoodExpr(e) {
			t.Errorf("told good: %v", e)
		}
		if s, ok := impl.ExprText(e); s != "" || ok {
			t.Errorf("ExprText(%v): %q %v", e, s, ok)
		}
		if n, ok := impl.DepthOf(e); n != 0 || ok {
			t.Errorf("DepthOf(%v): %d %v", e, n, ok)
		}
		if f, ok := impl.FoldExpr(e); len(f) != 0 || ok {
			t.Errorf("FoldExpr(%v): %v %v", e, f, ok)
		}
		if n, c, ok := impl.EvalExpr(e, []string{"a"}, []int{1}); n != 0 || c != 0 || ok {
			t.Errorf("EvalExpr(%v): %d %d %v", e, n, c, ok)
		}
		if !slices.Equal(e, kept) {
			t.Errorf("changed: %v, was %v", e, kept)
		}
	}
}

func TestGoodExpressions(t *testing.T) {
	for parts := 1; parts <= 5; parts++ {
		for _, x := range allTrees(parts, signsOfTwo()) {
			e := x.flat()
			if !impl.GoodExpr(e) || impl.GoodExpr(e[:parts-1]) || impl.GoodExpr(append(e, exName("a"))) {
				t.Errorf("%v", e)
			}
		}
	}
	for _, x := range []impl.Ex{exNum(0), exNum(999999999), exName("a"), exName("z"), exName("abcdefgh")} {
		if !impl.GoodExpr([]impl.Ex{x}) || !impl.GoodExpr([]impl.Ex{exMinus(), x}) || !impl.GoodExpr(append(slices.Repeat([]impl.Ex{exNot()}, 39), x)) {
			t.Errorf("%v", x)
		}
	}
}

// TestExpressionsBehindTheLength holds that what lies behind a list's length is neither read, nor written, nor handed out.
func TestExpressionsBehindTheLength(t *testing.T) {
	back := []impl.Ex{exTwo("+"), exName("x"), exTwo("*"), exNum(2), exNum(3), {Kind: 9, Num: -1, Text: "behind"}, exNum(4)}
	names, nums := []string{"x", "behind", "y"}, []int{1, 2, 1 << 40}
	keptBack, keptNames, keptNums := slices.Clone(back), slices.Clone(names), slices.Clone(nums)
	e := back[:5]
	if s, ok := impl.ExprText(e); s != "x+2*3" || !ok {
		t.Error(s, ok)
	}
	if n, ok := impl.DepthOf(e); n != 3 || !ok {
		t.Error(n, ok)
	}
	if n, c, ok := impl.EvalExpr(e, names[:1], nums[:1]); n != 7 || c != 0 || !ok {
		t.Error(n, c, ok)
	}
	if n, c, ok := impl.EvalExpr(back[3:4], names[:2], nums[:2]); n != 2 || c != 0 || !ok {
		t.Error(n, c, ok)
	}
	f, ok := impl.FoldExpr(e)
	if !slices.Equal(f, []impl.Ex{exTwo("+"), exName("x"), exNum(6)}) || !ok {
		t.Error(f, ok)
	}
	same, _ := impl.FoldExpr(back[1:2])
	for _, l := range [][]impl.Ex{f, same} {
		for i := range l[:cap(l)] {
			l[:cap(l)][i] = impl.Ex{Kind: 77}
		}
	}
	if !slices.Equal(back, keptBack) || !slices.Equal(names, keptNames) || !slices.Equal(nums, keptNums) {
		t.Error(back, names, nums)
	}
}

func TestParsedExpressionsShareNothing(t *testing.T) {
	first, _, _ := impl.ParseExpr("a+b")
	for i := range first[:cap(first)] {
		first[:cap(first)][i] = impl.Ex{Kind: 77}
	}
	checkParse(t, "a+b", exTwo("+"), exName("a"), exName("b"))
}
